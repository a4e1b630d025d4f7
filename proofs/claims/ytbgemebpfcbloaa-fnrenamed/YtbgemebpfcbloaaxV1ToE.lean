/-
  spec.l2Var, spec.VarBytes, impl.VarBytes: a number's bytes.
  What a call that writes into some blocks alone leaves; a row that is marked, and a row that is held against its marks.
-/
import Derived.Test.YtbgemebpfcbloaaProg
import Derived.Test.YtbgemebpfcbloaaxAToxL
import Derived.WalkLawsBesides
import Derived.OwnWalk
import Derived.WalkMore
import Derived.Laws.IdiomStrings
import Derived.Laws.Concat
namespace Go.Proofs.Ytbgemebpfcbloaa
open Go.RowKit
set_option maxRecDepth 100000
set_option linter.unusedVariables false

theorem Try.info5 : (Try.prog.info? 5).map (fun i => (i.zero, i.size, i.bytes)) = some (some (.int .u8 0), 1, 1) := by kernel_rfl
theorem owns_geX {w : World} {base : Nat} {e : TypeId} {size : Nat} {v : Value} {n : Nat} {xs : List Value} (h : w.ownsRow base e size v n xs) : ∀ g, v.ownBlock = some g → base ≤ g := by
  intro g hg
  rcases h.2 with ⟨rfl, _⟩ | ⟨g', cap, cur, rfl, hb, _⟩
  · simp [Value.ownBlock] at hg
  · simp only [Value.ownBlock, Option.some.injEq] at hg
    omega
/-- A text out of bytes that the call made. -/
theorem conv_back {w : World} {base cap : Nat} {g : Nat} {l : List UInt8} (h : w.ownsRow base 5 1 (.slice (some ⟨g, 0, none⟩) l.length cap) l.length (bcs l)) :
    (convert 22 9 (.slice (some ⟨g, 0, none⟩) l.length cap)).run Try.prog w = .ok (.string ⟨l.toArray⟩) w := by
  have := run_convert_bytes_back (P := Try.prog) w 22 9 5 ⟨g, 0, none⟩ cap l Try.underlying22 Try.underlying5 Try.underlying9 (by
    intro j hj
    rw [show (⟨g, 0, none⟩ : Addr).add j = ⟨g, j, none⟩ from by simp [Addr.add]; omega, h.cellAt j (by omega)]
    simp [bcs, hj])
  simpa using this

theorem owns_some {w : World} {base : Nat} {e : TypeId} {size : Nat} {v : Value} {n : Nat} {xs : List Value} (h : w.ownsRow base e size v (n + 1) xs) : ∃ g cap, v = .slice (some ⟨g, 0, none⟩) (n + 1) cap := by
  rcases h.2 with ⟨_, h0⟩ | ⟨g, cap, cur, rfl, _⟩
  · omega
  · exact ⟨g, cap, rfl⟩
theorem conv_back' {w : World} {base cap : Nat} {g n : Nat} {l : List UInt8} {c : UInt8} (h : w.ownsRow base 5 1 (.slice (some ⟨g, 0, none⟩) (n + 1) cap) (l.length + 1) (bcs l ++ [.int .u8 (c.toNat : Int)])) :
    (convert 22 9 (.slice (some ⟨g, 0, none⟩) (n + 1) cap)).run Try.prog w = .ok (.string ⟨(l ++ [c]).toArray⟩) w := by
  obtain rfl : n = l.length := by
    rcases h.2 with ⟨h, _⟩ | ⟨g', c', cur, h, _⟩
    · simp at h
    · simp only [Value.slice.injEq] at h; omega
  have h2 : w.ownsRow base 5 1 (.slice (some ⟨g, 0, none⟩) (l ++ [c]).length cap) (l ++ [c]).length (bcs (l ++ [c])) := by
    rw [List.length_append, bcs_append]; exact h
  have := conv_back h2
  rw [List.length_append] at this
  exact this

set_option maxHeartbeats 1000000 in
theorem l2Var_any (n : Nat) (w : World) (h : n < 9223372036854775808) :
    Calls Try.prog 88 #[.int .i64 n] w fun e w' => e = .returned (.string ⟨(varL n).toArray⟩) ∧ Below w.heap.size w w' := by
  obtain ⟨i0, hi, hz0, hzs, hzb⟩ := info_parts Try.info5
  go_enter Try.func88, Try.ntmps88
  go_wp2
  go_loopw [0, 3] (fun k v wr => ∃ (m : Nat) (acc : List UInt8), m ≤ n ∧ k = .int .i64 m ∧ wr.ownsRow w.heap.size 5 1 v acc.length (bcs acc) ∧ varL n = acc ++ varL m ∧ Below w.heap.size w wr) (fun k _ _ => (intOf k).toNat)
  case atStart => exact ⟨n, [], Nat.le_refl _, rfl, World.ownsRow_nil _ _ _ _, rfl, Below.refl _ _⟩
  case round =>
    obtain ⟨m, acc, hm, rfl, hown, hv, hb⟩ := hrel
    have hl : acc.length ≤ 9 := by
      have := varL_len 8 n (by simpa using h)
      rw [hv, List.length_append] at this; omega
    have HV : Hid (varL n = acc ++ varL m) := hv
    clear hv
    have hz := hb.size
    by_cases h1 : m < 128
    · obtain ⟨c, hc⟩ : ∃ c : UInt8, c = UInt8.ofNat m := ⟨_, rfl⟩
      have hcn : (c.toNat : Int) = (m : Int) := by rw [hc, UInt8.toNat_ofNat']; omega
      have HN : Hid (varL n = acc ++ [c]) := by show _ = _; rw [HV.out, varL_lt m h1, hc]
      clear hc HV
      go_wp2_with (at_builtin; refine wpList_append_own _ rfl _ _ 22 rfl w.heap.size 5 i0 (.int .u8 0) 1 1 Try.underlying22 hi hz0 hzs hzb rfl (by decide) _ acc.length (bcs acc) rfl (owns_below hown (below_alloc _ _)) ⟨wr.heap.size, 0, none⟩ 1 1 [.int .u8 (c.toNat : Int)] rfl rfl (by intro j u hj; match j, hj with | 0, hj => simp at hj; subst hj; simp [Addr.add, hcn]; try omega) (by intro u hu; simp at hu; subst hu; rfl) (by unfold maxLen; omega) (by omega) (by simp; omega) ?_; intro v' w2 hown2 hgrow2 _; obtain ⟨g, cap, rfl⟩ := owns_some hown2; have hcv := conv_back' hown2)
      go_ret
      exact ⟨by rw [HN.out]; rfl, (hb.alloc hz _).grown hgrow2 (by simp; omega) (owns_geX hown)⟩
    · obtain ⟨c, hc⟩ : ∃ c : UInt8, c = UInt8.ofNat (m % 128 + 128) := ⟨_, rfl⟩
      have hcn : bits BinOp.or IntKind.i64 (bits BinOp.and IntKind.i64 (m : Int) 127) 128 % 256 = (c.toNat : Int) := by
        rw [hc, UInt8.toNat_ofNat', i64_and127]
        have := (bits_nat .i64 62 (by decide) (fun n h1 h2 => by rw [IntKind.wrap_i64]; omega) (m % 128) 128 (by omega) (by decide)).2
        rw [show ((m % 128 : Nat) : Int) = (m : Int) % 128 from by omega] at this
        have e2 : (m % 128) ||| 128 = m % 128 + 128 := by rw [Nat.or_comm, nat_join 7 128 (m % 128) (by decide) (by omega), Nat.add_comm]
        rw [show ((128 : Nat) : Int) = 128 from rfl] at this
        rw [this, e2]; omega
      have HN : Hid (varL n = (acc ++ [c]) ++ varL (m / 128)) := by show _ = _; rw [HV.out, varL_ge m h1, hc]; simp
      clear hc HV
      go_wp2_with (at_builtin; refine wpList_append_own _ rfl _ _ 22 rfl w.heap.size 5 i0 (.int .u8 0) 1 1 Try.underlying22 hi hz0 hzs hzb rfl (by decide) _ acc.length (bcs acc) rfl (owns_below hown (below_alloc _ _)) ⟨wr.heap.size, 0, none⟩ 1 1 [.int .u8 (c.toNat : Int)] rfl rfl (by intro j u hj; match j, hj with | 0, hj => simp at hj; subst hj; simp [Addr.add]) (by intro u hu; simp at hu; subst hu; rfl) (by unfold maxLen; omega) (by omega) (by simp; omega) ?_; intro v' w2 hown2 hgrow2 _)
      go_roundw
      case rel =>
        refine ⟨m / 128, acc ++ [c], by omega, by go_num, ?_, HN.out, (hb.alloc hz _).grown hgrow2 (by simp; omega) (owns_geX hown)⟩
        rw [List.length_append, bcs_append]; exact hown2
      case measure => simp [intOf]; omega

/-- What VarBytes answers. -/
def varT (k : Int) : ByteArray := if 0 ≤ k then ⟨(varL k.toNat).toArray⟩ else ⟨#[]⟩
theorem varT_nat (n : Nat) : varT (n : Int) = ⟨(varL n).toArray⟩ := by simp [varT]
theorem varT_neg (k : Int) (h : k < 0) : varT k = ⟨#[]⟩ := by simp [varT]; omega

set_option maxRecDepth 100000 in
set_option maxHeartbeats 1000000 in
theorem implVar_any (k : Int) (w : World) (h1 : -9223372036854775808 ≤ k) (h2 : k ≤ 9223372036854775807) :
    Calls Try.prog 113 #[.int .i64 k] w fun e w' => e = .returned (.tuple #[.string (varT k), .bool (decide (0 ≤ k))]) ∧ Below w.heap.size w w' := by
  obtain ⟨i0, hi, hz0, hzs, hzb⟩ := info_parts Try.info5
  by_cases h : k < 0
  · go_enter Try.func113, Try.ntmps113
    go_wp2
    go_step3
    go_wp2
    rw [Exit.noGoto_ret]
    go_ret2
    exact ⟨by rw [varT_neg k h]; simp; omega, Below.refl _ _⟩
  · obtain ⟨n, rfl⟩ := Int.eq_ofNat_of_zero_le (show 0 ≤ k from by omega)
    go_enter Try.func113, Try.ntmps113
    go_wp2
    refine wp_scope_jumps2 0 (fun a' w' => ∃ (m : Nat) (acc : List UInt8) (v u7 u8 u9 u10 u11 u12 u13 u14 u15 u16 u17 : Value), a' = { tmps := #[.int .i64 m, undef, .string ⟨#[]⟩, .bool false, v, .int .i64 n, .bool false, u7, u8, u9, u10, u11, u12, u13, u14, u15, u16, u17, undef, undef, undef, undef, undef, undef], defers := [] } ∧ m ≤ n ∧ w'.ownsRow w.heap.size 5 1 v acc.length (bcs acc) ∧ varL n = acc ++ varL m ∧ Below w.heap.size w w') (fun a' _ => (intOf (a'.tmps.getD 0 undef)).toNat) rfl ?_ ?_
    · rintro a' wr ⟨m, acc, v, u7, u8, u9, u10, u11, u12, u13, u14, u15, u16, u17, rfl, hm, hown, hv, hb⟩
      have hl : acc.length ≤ 9 := by
        have := varL_len 8 n (by simpa using (show n < 9223372036854775808 from by omega))
        rw [hv, List.length_append] at this; omega
      have HV : Hid (varL n = acc ++ varL m) := hv
      clear hv
      have hz := hb.size
      by_cases h1 : m < 128
      · obtain ⟨c, hc⟩ : ∃ c : UInt8, c = UInt8.ofNat m := ⟨_, rfl⟩
        have hcn : (c.toNat : Int) = (m : Int) := by rw [hc, UInt8.toNat_ofNat']; omega
        have HN : Hid (varL n = acc ++ [c]) := by show _ = _; rw [HV.out, varL_lt m h1, hc]
        clear hc HV
        go_wp2_with (at_builtin; refine wpList_append_own _ rfl _ _ 22 rfl w.heap.size 5 i0 (.int .u8 0) 1 1 Try.underlying22 hi hz0 hzs hzb rfl (by decide) _ acc.length (bcs acc) rfl (owns_below hown (below_alloc _ _)) ⟨wr.heap.size, 0, none⟩ 1 1 [.int .u8 (c.toNat : Int)] rfl rfl (by intro j u hj; match j, hj with | 0, hj => simp at hj; subst hj; simp [Addr.add, hcn]; try omega) (by intro u hu; simp at hu; subst hu; rfl) (by unfold maxLen; omega) (by omega) (by simp; omega) ?_; intro v' w2 hown2 hgrow2 _; obtain ⟨g, cap, rfl⟩ := owns_some hown2; have hcv := conv_back' hown2)
        simp only [Exit.jump]
        go_ret2
        exact ⟨by rw [varT_nat, HN.out]; simp, (hb.alloc hz _).grown hgrow2 (by simp; omega) (owns_geX hown)⟩
      · obtain ⟨c, hc⟩ : ∃ c : UInt8, c = UInt8.ofNat (m % 128 + 128) := ⟨_, rfl⟩
        have hcn : (c.toNat : Int) = (m : Int) % 128 + 128 := by
          rw [hc, UInt8.toNat_ofNat']; omega
        have HN : Hid (varL n = (acc ++ [c]) ++ varL (m / 128)) := by show _ = _; rw [HV.out, varL_ge m h1, hc]; simp
        clear hc HV
        go_wp2_with (at_builtin; refine wpList_append_own _ rfl _ _ 22 rfl w.heap.size 5 i0 (.int .u8 0) 1 1 Try.underlying22 hi hz0 hzs hzb rfl (by decide) _ acc.length (bcs acc) rfl (owns_below hown (below_alloc _ _)) ⟨wr.heap.size, 0, none⟩ 1 1 [.int .u8 (c.toNat : Int)] rfl rfl (by intro j u hj; match j, hj with | 0, hj => simp at hj; subst hj; simp [Addr.add]; try omega) (by intro u hu; simp at hu; subst hu; rfl) (by unfold maxLen; omega) (by omega) (by simp; omega) ?_; intro v' w2 hown2 hgrow2 _)
        go_step3
        trace_state
        refine ⟨rfl, ⟨m / 128, acc ++ [c], _, _, _, _, _, _, _, _, _, _, _, _, rfl, by omega, ?_, HN.out, (hb.alloc hz _).grown hgrow2 (by simp; omega) (owns_geX hown)⟩, ?_⟩
        · rw [List.length_append, bcs_append]; exact hown2
        · simp [intOf]; omega
    · intro key
      go_wp2
      go_step3
      rename_i K hK
      show K _ _
      refine hK _ _ (key _ _ ⟨n, [], _, _, _, _, _, _, _, _, _, _, _, _, rfl, Nat.le_refl _, World.ownsRow_nil _ _ _ _, rfl, Below.refl _ _⟩)
end Go.Proofs.Ytbgemebpfcbloaa

namespace Go.Proofs.Ytbgemebpfcbloaa
open Go.RowKit
set_option linter.unusedVariables false

/-- Behind the call all blocks are as they were but those of S (and new ones). -/
structure Chg (S : Nat → Prop) (w w' : World) : Prop where
  os : w'.os = w.os
  tape : w'.tape = w.tape
  output : w'.output = w.output
  size : w.heap.size ≤ w'.heap.size
  block : ∀ k, k < w.heap.size → ¬ S k → w'.heap[k]? = w.heap[k]?
theorem Chg.refl (S : Nat → Prop) (w : World) : Chg S w w := ⟨rfl, rfl, rfl, Nat.le_refl _, fun _ _ _ => rfl⟩
theorem Chg.of_below {S : Nat → Prop} {w w' : World} (h : Below w.heap.size w w') : Chg S w w' := ⟨h.os, h.tape, h.output, h.size, fun k hk _ => h.block k hk⟩
theorem Chg.trans {S : Nat → Prop} {a b c : World} (h : Chg S a b) (k : Chg S b c) : Chg S a c :=
  ⟨k.os.trans h.os, k.tape.trans h.tape, k.output.trans h.output, Nat.le_trans h.size k.size, fun j hj hs => (k.block j (Nat.lt_of_lt_of_le hj h.size) hs).trans (h.block j hj hs)⟩
theorem Chg.mono {S T : Nat → Prop} {a b : World} (h : Chg S a b) (hst : ∀ k, S k → T k) : Chg T a b := ⟨h.os, h.tape, h.output, h.size, fun k hk ht => h.block k hk fun hs => ht (hst k hs)⟩
theorem Chg.setCell {S : Nat → Prop} {a w : World} (h : Chg S a w) {p : Addr} (hp : S p.block) (u : Value) : Chg S a (w.setCell p u) :=
  ⟨h.os, h.tape, h.output, by simpa using h.size, fun k hk hs => (Below.heap_setCell w p u k (fun e => hs (e ▸ hp))).trans (h.block k hk hs)⟩
/-- Where S lies above B, what is below B is as it was. -/
theorem Chg.below {S : Nat → Prop} {w w' : World} (h : Chg S w w') {B : Nat} (hB : B ≤ w.heap.size) (hs : ∀ k, S k → B ≤ k) : Below B w w' :=
  ⟨h.os, h.tape, h.output, h.size, fun k hk => h.block k (Nat.lt_of_lt_of_le hk hB) fun hk' => by have := hs k hk'; omega⟩
theorem Chg.owns {S : Nat → Prop} {w w' : World} (h : Chg S w w') {base : Nat} {e : TypeId} {size : Nat} {v : Value} {n : Nat} {xs : List Value} (ho : w.ownsRow base e size v n xs) (hs : ∀ g, v.ownBlock = some g → ¬ S g) : w'.ownsRow base e size v n xs := by
  obtain ⟨hl, ho⟩ := ho
  refine ⟨hl, ?_⟩
  rcases ho with ho | ⟨g, cap, cur, hv, hbg, hh, ho⟩
  · exact .inl ho
  · refine .inr ⟨g, cap, cur, hv, hbg, ?_, ho⟩
    rw [h.block g (Array.getElem?_eq_some_iff.1 hh).1 (hs g (by rw [hv]; rfl))]
    exact hh
theorem Chg.box {S : Nat → Prop} {w w' : World} (h : Chg S w w') {b : Nat} {vs : List Value} (hx : Box w b vs) (hs : ¬ S b) : Box w' b vs := by
  have hb := h.block b hx.1 hs
  exact ⟨Nat.lt_of_lt_of_le hx.1 h.size, fun j v hv => (World.cell?_of_block (w := w) (a := ⟨b, j, none⟩) hb).trans (hx.2.1 j v hv), fun j => (World.frozen?_of_block (w := w) (a := ⟨b, j, none⟩) hb).trans (hx.2.2 j)⟩
end Go.Proofs.Ytbgemebpfcbloaa
