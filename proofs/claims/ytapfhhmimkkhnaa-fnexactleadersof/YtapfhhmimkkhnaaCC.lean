/-
  A cluster made of the law's own: toRaftNodeS, toRaftMsgS, toLeadS, toCluster.
-/
import Derived.Test.YtapfhhmimkkhnaaCB
namespace Go.Proofs.Ytapfhhmimkkhnaa
open Go.RowKit Go.Maps
set_option linter.unusedVariables false
set_option maxRecDepth 100000

/-- What a list's members own lies side by side, in their order. -/
def Chain {α : Type} (P : World → Nat → α → Prop) (B : α → Nat → Prop) (w : World) (lo hi : Nat) (l : List α) : Prop :=
  ∃ c : Nat → Nat, lo ≤ c 0 ∧ c l.length ≤ hi ∧ ∀ i (h : i < l.length), c i ≤ c (i + 1) ∧ P w (c i) l[i] ∧ ∀ b, B l[i] b → c i ≤ b ∧ b < c (i + 1)
theorem Chain.nil {α : Type} {P : World → Nat → α → Prop} {B : α → Nat → Prop} {w : World} {lo hi : Nat} (h : lo ≤ hi) : Chain P B w lo hi [] := ⟨fun _ => lo, Nat.le_refl _, h, fun i h => by simp at h⟩
theorem Chain.hi {α : Type} {P : World → Nat → α → Prop} {B : α → Nat → Prop} {w : World} {lo hi hi' : Nat} {l : List α} (h : Chain P B w lo hi l) (hh : hi ≤ hi') : Chain P B w lo hi' l := by
  obtain ⟨c, h0, h1, h2⟩ := h
  exact ⟨c, h0, Nat.le_trans h1 hh, h2⟩
theorem Chain.lo {α : Type} {P : World → Nat → α → Prop} {B : α → Nat → Prop} {w : World} {lo lo' hi : Nat} {l : List α} (h : Chain P B w lo hi l) (hh : lo' ≤ lo) : Chain P B w lo' hi l := by
  obtain ⟨c, h0, h1, h2⟩ := h
  exact ⟨c, Nat.le_trans hh h0, h1, h2⟩
theorem chain_le {l : Nat} {c : Nat → Nat} (h : ∀ i, i < l → c i ≤ c (i + 1)) : ∀ i j, i ≤ j → j ≤ l → c i ≤ c j := by
  intro i j hij
  induction j with
  | zero => intro _; obtain rfl : i = 0 := by omega
            exact Nat.le_refl _
  | succ j ih =>
    intro hj
    by_cases he : i = j + 1
    · subst he; exact Nat.le_refl _
    · exact Nat.le_trans (ih (by omega) (by omega)) (h j (by omega))
theorem Chain.ends {α : Type} {P : World → Nat → α → Prop} {B : α → Nat → Prop} {w : World} {lo hi : Nat} {l : List α} (h : Chain P B w lo hi l) : lo ≤ hi := by
  obtain ⟨c, h0, h1, h2⟩ := h
  have := chain_le (l := l.length) (c := c) (fun i h => (h2 i h).1) 0 l.length (by omega) (by omega)
  omega
theorem Chain.at {α : Type} {P : World → Nat → α → Prop} {B : α → Nat → Prop} {w : World} {lo hi : Nat} {l : List α} (h : Chain P B w lo hi l) (i : Nat) (hi' : i < l.length) : ∃ b, lo ≤ b ∧ P w b l[i] ∧ ∀ b, B l[i] b → lo ≤ b ∧ b < hi := by
  obtain ⟨c, h0, h1, h2⟩ := h
  have e1 := chain_le (l := l.length) (c := c) (fun i h => (h2 i h).1) 0 i (by omega) (by omega)
  have e2 := chain_le (l := l.length) (c := c) (fun i h => (h2 i h).1) (i + 1) l.length (by omega) (by omega)
  refine ⟨c i, by omega, (h2 i hi').2.1, fun b hb => ?_⟩
  have := (h2 i hi').2.2 b hb
  omega
theorem Chain.map {α : Type} {P : World → Nat → α → Prop} {B : α → Nat → Prop} {w w' : World} {lo hi : Nat} {l : List α} (h : Chain P B w lo hi l) (f : ∀ c x, P w c x → (∀ b, B x b → lo ≤ b ∧ b < hi) → P w' c x) : Chain P B w' lo hi l := by
  have ha := h.at
  obtain ⟨c, h0, h1, h2⟩ := h
  refine ⟨c, h0, h1, fun i hi' => ⟨(h2 i hi').1, f _ _ (h2 i hi').2.1 ?_, (h2 i hi').2.2⟩⟩
  obtain ⟨_, _, _, q⟩ := ha i hi'
  exact q
theorem Chain.push {α : Type} {P : World → Nat → α → Prop} {B : α → Nat → Prop} {w : World} {lo hi hi' : Nat} {l : List α} {x : α} (h : Chain P B w lo hi l) (hp : P w hi x) (hb : ∀ b, B x b → hi ≤ b ∧ b < hi') (hh : hi ≤ hi') : Chain P B w lo hi' (l ++ [x]) := by
  have h3 := h.ends
  obtain ⟨c, h0, h1, h2⟩ := h
  refine ⟨fun i => if i < l.length then c i else if i = l.length then hi else hi', ?_, ?_, ?_⟩
  · by_cases hl : 0 < l.length
    · simp [hl]; exact h0
    · have hl : 0 = l.length := by omega
      simp [← hl]; exact h3
  · simp [show ¬ l.length + 1 < l.length from by omega]
  · intro i hi2
    simp only [List.length_append, List.length_singleton] at hi2
    by_cases hil : i < l.length
    · have e := h2 i hil
      rw [List.getElem_append_left hil]
      simp only [hil, if_true]
      by_cases hs : i + 1 < l.length
      · simp only [hs, if_true]; exact e
      · have hs2 : i + 1 = l.length := by omega
        simp only [if_neg hs, if_pos hs2]
        rw [hs2] at e
        exact ⟨Nat.le_trans e.1 h1, e.2.1, fun b hb => ⟨(e.2.2 b hb).1, Nat.lt_of_lt_of_le (e.2.2 b hb).2 h1⟩⟩
    · obtain rfl : i = l.length := by omega
      simp only [Nat.lt_irrefl, if_false, if_true, show ¬ l.length + 1 < l.length from by omega, show ¬ l.length + 1 = l.length from by omega]
      rw [List.getElem_append_right (Nat.le_refl _)]
      simp only [Nat.sub_self, List.getElem_cons_zero]
      exact ⟨hh, hp, hb⟩

def PN (w : World) (b : Nat) (x : Nv) : Prop := OwnN w b (.slice x.la x.n.log.length x.lc) (.slice x.va x.n.vs.length x.vc) (.slice x.ma x.n.mt.length x.mc) x.n.log x.n.vs x.n.mt
def BN (x : Nv) (b : Nat) : Prop := NB (.slice x.la x.n.log.length x.lc) (.slice x.va x.n.vs.length x.vc) (.slice x.ma x.n.mt.length x.mc) b
def PM (w : World) (b : Nat) (x : Mv) : Prop := w.ownsRow b 34 2 (.slice x.ea x.q.es.length x.ec) x.q.es.length (flat2 x.q.es)
def BM (x : Mv) (b : Nat) : Prop := (Value.slice x.ea x.q.es.length x.ec).ownBlock = some b
theorem Chain.belowN {w w' : World} {lo hi : Nat} {l : List Nv} (h : Chain PN BN w lo hi l) (hb : Below w.heap.size w w') : Chain PN BN w' lo hi l := h.map fun c x hp _ => OwnN.below hp hb
theorem Chain.chgN {w w' : World} {S : Nat → Prop} {lo hi : Nat} {l : List Nv} (h : Chain PN BN w lo hi l) (hc : Chg S w w') (hs : ∀ b, S b → b < lo ∨ hi ≤ b) : Chain PN BN w' lo hi l := h.map fun c x hp hb => OwnN.chg hp hc (fun b h1 h2 => by have := hb b h1; have := hs b h2; omega)
theorem PN.in {w : World} {b : Nat} {x : Nv} (h : PN w b x) : ∀ g, BN x g → b ≤ g ∧ g < w.heap.size := fun g hg => OwnN.lt h g hg
theorem PN.ne {w : World} {b : Nat} {x : Nv} (h : PN w b x) : NE w x := ⟨OwnN.er h, OwnN.iv h, OwnN.im h⟩
theorem Chain.belowM {w w' : World} {lo hi : Nat} {l : List Mv} (h : Chain PM BM w lo hi l) (hb : Below w.heap.size w w') : Chain PM BM w' lo hi l := h.map fun c x hp _ => owns_below hp hb
theorem Chain.chgM {w w' : World} {S : Nat → Prop} {lo hi : Nat} {l : List Mv} (h : Chain PM BM w lo hi l) (hc : Chg S w w') (hs : ∀ b, S b → b < lo ∨ hi ≤ b) : Chain PM BM w' lo hi l := h.map fun c x hp hb => hc.owns hp (fun b h1 h2 => by have := hb b h1; have := hs b h2; omega)
theorem PM.in {w : World} {b : Nat} {x : Mv} (h : PM w b x) : ∀ g, BM x g → b ≤ g ∧ g < w.heap.size := fun g hg => ⟨owns_ge h g hg, owns_below_lt h g hg⟩
theorem PM.me {w : World} {b : Nat} {x : Mv} (h : PM w b x) : ME w x := ER_of_owns h rfl

theorem toLead_any (t n : Int) (w : World) : Calls Try.prog 127 #[.agg #[.int .i64 t, .int .i64 n]] w fun e w' => e = .returned (.agg #[.int .i64 t, .int .i64 n]) ∧ Below w.heap.size w w' := by
  go_enter Try.func127, Try.ntmps127
  go_wp2
  exact bodyPost_ret (v := .agg #[.int .i64 t, .int .i64 n]) (by simp [results, Try.results127, go_sem]) rfl ⟨rfl, below3 _ _ _ _⟩

theorem Try.info116 : (Try.prog.info? 116).map (fun i => (i.zero, i.size, i.bytes)) = some (some (.agg #[.int .i64 0, .int .i64 0]), 2, 16) := by kernel_rfl
set_option maxHeartbeats 4000000 in
theorem toLeadS_any (v : Value) (l : List Ld) (w : World) (hv : LW w v l) (hn : l.length ≤ 1048576) :
    Calls Try.prog 99 #[v] w fun e w' => ∃ l', e = .returned (.slice (some ⟨w.heap.size, 0, none⟩) l.length l.length) ∧ l' = l ∧ w'.ownsRow w.heap.size 116 2 (.slice (some ⟨w.heap.size, 0, none⟩) l.length l.length) l.length (flatL l') ∧ Below w.heap.size w w' := by
  obtain ⟨a, cap, rfl, hc⟩ := hv
  obtain ⟨i0, hi, hz0, hz1, hz2⟩ := info_parts Try.info116
  go_enter Try.func99, Try.ntmps99
  go_wp2_with (at_make; refine wpList_make_full _ rfl _ _ 58 rfl w.heap.size 116 i0 _ 2 Try.underlying58 hi hz0 hz1 .i64 .i64 _ _ l.length rfl rfl rfl rfl (by rw [hz2]; omega) (by unfold maxLen; omega) (Nat.le_refl _) ?_; intro w0 hown0 hgr0)
  rw [flatL_zeros] at hown0
  have hb0 : Below w.heap.size w w0 := (Below.refl _ _).grown hgr0 (Nat.le_refl _) (by simp)
  have hlt0 : w.heap.size < w0.heap.size := (owns_lt hown0).2
  clear hgr0 hi hz0 hz1 hz2
  go_loopw [4] (fun i wr => ∃ (k : Nat) (l' : List Ld), k ≤ l.length ∧ i = .int .i64 k ∧ l'.length = k ∧ l' = l.take k ∧ wr.ownsRow w.heap.size 116 2 (.slice (some ⟨w.heap.size, 0, none⟩) l.length l.length) l.length (flatL (l' ++ List.replicate (l.length - k) Ld.zero)) ∧ Below w.heap.size w wr ∧ w.heap.size < wr.heap.size) (fun i _ => l.length - (intOf i).toNat)
  case atStart => exact ⟨0, [], Nat.zero_le _, rfl, rfl, by simp, by simpa using hown0, hb0, hlt0⟩
  case round =>
    obtain ⟨k, l', hk, rfl, hl', hm', hown, hb, hlt1⟩ := hrel
    clear hown0 hb0 hlt0
    by_cases hlt : k < l.length
    · obtain ⟨b, off, rfl, hbl, hcell⟩ := hc (by intro e; simp [e] at hlt)
      obtain ⟨z0, z1⟩ := hcell k hlt
      have hc0 := (hb.cell (p := ⟨b, off + k * 2, none⟩) hbl).trans z0
      have hc1 := (hb.cell (p := ⟨b, off + k * 2 + 1, none⟩) hbl).trans z1
      have HM : Hid (l.take (k + 1) = l.take k ++ [l[k]]) := by show _ = _; rw [← List.take_append_getElem hlt]
      have HL : Hid (l'.length = k) := hl'
      have HM2 : Hid (l' = l.take k) := hm'
      clear hcell hc hl' hm' z0 z1
      have hz := hb.size
      generalize l[k] = s at *
      obtain ⟨t, n⟩ := s
      have KS := toLead_any t n
      dsimp only at *
      go_wp2_with fail
      refine (KS _).mono ?_
      rintro e w1 ⟨rfl, hb1⟩
      have hown1 := owns_below hown hb1
      obtain ⟨⟨u0, d0⟩, f0⟩ := owns2_at hown1 k hlt 0 (by omega)
      obtain ⟨⟨u1, d1⟩, f1⟩ := owns2_at hown1 k hlt 1 (by omega)
      rw [Nat.add_zero] at d0 f0
      have hz1 := hb1.size
      have hb2 : Below w.heap.size w w1 := hb.trans (hb1.mono hz)
      have HO : Hid _ := ((hown1.stored (k * 2) (.int .i64 t)).1.stored (k * 2 + 1) (.int .i64 n)).1
      have hlt2 : w.heap.size < w1.heap.size := by omega
      clear hown hown1 hb hb1 KS
      go_wp2
      go_roundw
      case rel =>
        refine ⟨k + 1, l' ++ [⟨t, n⟩], by omega, by go_num, by rw [List.length_append, HL.out]; rfl, by rw [HM.out, HM2.out], ?_, ?_, ?_⟩
        · have e1 := HO.out
          have e2 := put_next l' Ld.zero ⟨t, n⟩ l.length (by rw [HL.out]; exact hlt)
          rw [List.length_append, HL.out] at e2
          rw [flatL_set _ k ⟨t, n⟩, e2] at e1
          exact e1

        · iterate 2 (refine Below.setCell ?_ (by simp) _)
          exact hb2
        · simp; omega
      case measure => simp [intOf]; omega
    · clear hc
      go_wp2
      go_ret
      have : k = l.length := by omega
      subst this
      rw [Nat.sub_self, List.replicate_zero, List.append_nil] at hown
      rw [List.take_length] at hm'
      exact ⟨l', rfl, hm', hown, hb⟩
end Go.Proofs.Ytapfhhmimkkhnaa
