/-
  A region that draws its order and holds calls that only make new memory and answer one value, whatever the world: one walk, in the order of the text (the library's theorem on quiet regions, at the class 'as it was below block B').
  A scope in which the run jumps back to one label, the way to the label and the way behind it walked once each.
  spec.l2Var, spec.VarBytes, impl.VarBytes: a number's bytes.
-/
import Derived.Test.YtenbdjlhcadhaaaGreatB
import Derived.Deep.QuietTactic
import Derived.BigQuiet
import Derived.ScopeJumps
import Derived.Tactics
import Derived.Test.YtenbdjlhcadhaaaGreatProg
import Derived.Test.YtenbdjlhcadhaaaGreatA
import Derived.WalkLawsBesides
import Derived.OwnWalk
import Derived.WalkMore
import Derived.Laws.IdiomStrings
import Derived.Laws.Concat
namespace Go.Proofs.YtenbdjlhcadhaaaGreat
open Go.RowKit

/-- A world that is as W was below block B. -/
structure WC (B : Nat) (W : World) where
  w : World
  ok : Below B W w

theorem wp_region_calm {P : Program} {B : Nat} {W : World} {id : Nat} {Q : Exit → Act → World → Prop} {a : Act} {w : World} {l : List Oper} (hm : P.follows .mixedOrders = true) (hB : Region.lexB .any l.toArray = true) (hw : Below B W w)
    (h : wpQuiet P l.toArray (fun w' => ∃ n : WC B W, w' = n.w) (fun a' => ∀ w', (∃ n : WC B W, w' = n.w) → Q .normal a' w') l a) : (Code.region id l.toArray true).wp P Q a w :=
  wp_region_quiet (C := fun w' => ∃ n : WC B W, w' = n.w) hm hB ⟨⟨w.drew, hw.drew⟩, rfl⟩ (by simpa using h)

/-- A call that answers v and leaves what is below B. -/
theorem calm_of {P : Program} {B : Nat} {W : World} {f : FuncId} {args : Array Value} {x : WC B W} {v : Value}
    (h : Calls P f args x.w fun e w'' => e = .returned v ∧ Below B W w'') : Calls P f args x.w fun e w'' => e = .returned v ∧ ∃ m : WC B W, w'' = m.w :=
  h.mono fun _ w'' ⟨he, hb⟩ => ⟨he, ⟨w'', hb⟩, rfl⟩
/-- .. out of a contract that leaves all that was there. -/
theorem calm_of_below {P : Program} {B : Nat} {W : World} {f : FuncId} {args : Array Value} {x : WC B W} {v : Value} (hB : B ≤ W.heap.size)
    (h : Calls P f args x.w fun e w'' => e = .returned v ∧ Below x.w.heap.size x.w w'') : Calls P f args x.w fun e w'' => e = .returned v ∧ ∃ m : WC B W, w'' = m.w :=
  calm_of (h.mono fun _ _ ⟨he, hb⟩ => ⟨he, x.ok.trans (hb.mono (Nat.le_trans hB x.ok.size))⟩)
theorem calm_of_same {P : Program} {B : Nat} {W : World} {f : FuncId} {args : Array Value} {x : WC B W} {v : Value}
    (h : Calls P f args x.w fun e w'' => e = .returned v ∧ w'' = x.w) : Calls P f args x.w fun e w'' => e = .returned v ∧ ∃ m : WC B W, w'' = m.w :=
  h.mono fun _ _ ⟨he, hb⟩ => ⟨he, x, hb⟩
end Go.Proofs.YtenbdjlhcadhaaaGreat

namespace Go.Proofs.YtenbdjlhcadhaaaGreat

theorem jump_mono {l : Nat} {J J' : Act → World → Prop} {Q : Exit → Act → World → Prop} (h : ∀ a w, J a w → J' a w) : ∀ e a w, Exit.jump l J Q e a w → Exit.jump l J' Q e a w
  | .goto _, a, w, ⟨e, hJ⟩ => ⟨e, h a w hJ⟩
  | .normal, _, _, h => h
  | .exit _, _, _, h => h
  | .ret, _, _, h => h
  | .panic _, _, _, h => h
  | .outgrown, _, _, h => h
theorem wp_scope_jumps2 {P : Program} {a : Act} {w : World} {Q : Exit → Act → World → Prop} {c X : Code} (l : Nat) (J : Act → World → Prop) (μ : Act → World → Nat) (hf : findLabel c l = some (Code.skip.seq X))
    (pass : ∀ a w, J a w → X.wp P (Exit.jump l (fun a' w' => J a' w' ∧ μ a' w' < μ a w) Q) a w)
    (first : (∀ a w, J a w → X.wp P (Exit.jump l J Q) a w) → c.wp P (Exit.jump l J Q) a w) : (Code.scope c).wp P Q a w :=
  wp_scope_jumps l J μ hf (first fun a w h => Code.wp_mono (jump_mono fun _ _ h => h.1) (pass a w h)) (fun a w h => wp_seq (wp_skip (pass a w h)))
end Go.Proofs.YtenbdjlhcadhaaaGreat

namespace Go.Proofs.YtenbdjlhcadhaaaGreat
open Go.RowKit
set_option maxRecDepth 100000
set_option linter.unusedVariables false

theorem Tryz.info5 : (Tryz.prog.info? 5).map (fun i => (i.zero, i.size, i.bytes)) = some (some (.int .u8 0), 1, 1) := by kernel_rfl
theorem owns_ge {w : World} {base : Nat} {e : TypeId} {size : Nat} {v : Value} {n : Nat} {xs : List Value} (h : w.ownsRow base e size v n xs) : ∀ g, v.ownBlock = some g → base ≤ g := by
  intro g hg
  rcases h.2 with ⟨rfl, _⟩ | ⟨g', cap, cur, rfl, hb, _⟩
  · simp [Value.ownBlock] at hg
  · simp only [Value.ownBlock, Option.some.injEq] at hg
    omega
/-- A text out of bytes that the call made. -/
theorem conv_back {w : World} {base cap : Nat} {g : Nat} {l : List UInt8} (h : w.ownsRow base 5 1 (.slice (some ⟨g, 0, none⟩) l.length cap) l.length (bcs l)) :
    (convert 22 9 (.slice (some ⟨g, 0, none⟩) l.length cap)).run Tryz.prog w = .ok (.string ⟨l.toArray⟩) w := by
  have := run_convert_bytes_back (P := Tryz.prog) w 22 9 5 ⟨g, 0, none⟩ cap l Tryz.underlying22 Tryz.underlying5 Tryz.underlying9 (by
    intro j hj
    rw [show (⟨g, 0, none⟩ : Addr).add j = ⟨g, j, none⟩ from by simp [Addr.add]; omega, h.cellAt j (by omega)]
    simp [bcs, hj])
  simpa using this

theorem owns_some {w : World} {base : Nat} {e : TypeId} {size : Nat} {v : Value} {n : Nat} {xs : List Value} (h : w.ownsRow base e size v (n + 1) xs) : ∃ g cap, v = .slice (some ⟨g, 0, none⟩) (n + 1) cap := by
  rcases h.2 with ⟨_, h0⟩ | ⟨g, cap, cur, rfl, _⟩
  · omega
  · exact ⟨g, cap, rfl⟩
theorem conv_back' {w : World} {base cap : Nat} {g n : Nat} {l : List UInt8} {c : UInt8} (h : w.ownsRow base 5 1 (.slice (some ⟨g, 0, none⟩) (n + 1) cap) (l.length + 1) (bcs l ++ [.int .u8 (c.toNat : Int)])) :
    (convert 22 9 (.slice (some ⟨g, 0, none⟩) (n + 1) cap)).run Tryz.prog w = .ok (.string ⟨(l ++ [c]).toArray⟩) w := by
  obtain rfl : n = l.length := by
    rcases h.2 with ⟨h, _⟩ | ⟨g', c', cur, h, _⟩
    · simp at h
    · simp only [Value.slice.injEq] at h; omega
  have h2 : w.ownsRow base 5 1 (.slice (some ⟨g, 0, none⟩) (l ++ [c]).length cap) (l ++ [c]).length (bcs (l ++ [c])) := by
    rw [List.length_append, bcs_append]; exact h
  have := conv_back h2
  rw [List.length_append] at this
  exact this

set_option maxHeartbeats 1000000 in
theorem l2Var_any (n : Nat) (w : World) (h : n < 9223372036854775808) :
    Calls Tryz.prog 61 #[.int .i64 n] w fun e w' => e = .returned (.string ⟨(varL n).toArray⟩) ∧ Below w.heap.size w w' := by
  obtain ⟨i0, hi, hz0, hzs, hzb⟩ := info_parts Tryz.info5
  go_enter Tryz.func61, Tryz.ntmps61
  go_wp2
  go_loopw [0, 3] (fun k v wr => ∃ (m : Nat) (acc : List UInt8), m ≤ n ∧ k = .int .i64 m ∧ wr.ownsRow w.heap.size 5 1 v acc.length (bcs acc) ∧ varL n = acc ++ varL m ∧ Below w.heap.size w wr) (fun k _ _ => (intOf k).toNat)
  case atStart => exact ⟨n, [], Nat.le_refl _, rfl, World.ownsRow_nil _ _ _ _, rfl, Below.refl _ _⟩
  case round =>
    obtain ⟨m, acc, hm, rfl, hown, hv, hb⟩ := hrel
    have hl : acc.length ≤ 9 := by
      have := varL_len 8 n (by simpa using h)
      rw [hv, List.length_append] at this; omega
    have HV : Hid (varL n = acc ++ varL m) := hv
    clear hv
    have hz := hb.size
    by_cases h1 : m < 128
    · obtain ⟨c, hc⟩ : ∃ c : UInt8, c = UInt8.ofNat m := ⟨_, rfl⟩
      have hcn : (c.toNat : Int) = (m : Int) := by rw [hc, UInt8.toNat_ofNat']; omega
      have HN : Hid (varL n = acc ++ [c]) := by show _ = _; rw [HV.out, varL_lt m h1, hc]
      clear hc HV
      go_wp2_with (at_builtin; refine wpList_append_own _ rfl _ _ 22 rfl w.heap.size 5 i0 (.int .u8 0) 1 1 Tryz.underlying22 hi hz0 hzs hzb rfl (by decide) _ acc.length (bcs acc) rfl (owns_below hown (below_alloc _ _)) ⟨wr.heap.size, 0, none⟩ 1 1 [.int .u8 (c.toNat : Int)] rfl rfl (by intro j u hj; match j, hj with | 0, hj => simp at hj; subst hj; simp [Addr.add, hcn]; try omega) (by intro u hu; simp at hu; subst hu; rfl) (by unfold maxLen; omega) (by omega) (by simp; omega) ?_; intro v' w2 hown2 hgrow2 _; obtain ⟨g, cap, rfl⟩ := owns_some hown2; have hcv := conv_back' hown2)
      go_ret
      exact ⟨by rw [HN.out]; rfl, (hb.alloc hz _).grown hgrow2 (by simp; omega) (owns_ge hown)⟩
    · obtain ⟨c, hc⟩ : ∃ c : UInt8, c = UInt8.ofNat (m % 128 + 128) := ⟨_, rfl⟩
      have hcn : bits BinOp.or IntKind.i64 (bits BinOp.and IntKind.i64 (m : Int) 127) 128 % 256 = (c.toNat : Int) := by
        rw [hc, UInt8.toNat_ofNat', i64_and127]
        have := (bits_nat .i64 62 (by decide) (fun n h1 h2 => by rw [IntKind.wrap_i64]; omega) (m % 128) 128 (by omega) (by decide)).2
        rw [show ((m % 128 : Nat) : Int) = (m : Int) % 128 from by omega] at this
        have e2 : (m % 128) ||| 128 = m % 128 + 128 := by rw [Nat.or_comm, nat_join 7 128 (m % 128) (by decide) (by omega), Nat.add_comm]
        rw [show ((128 : Nat) : Int) = 128 from rfl] at this
        rw [this, e2]; omega
      have HN : Hid (varL n = (acc ++ [c]) ++ varL (m / 128)) := by show _ = _; rw [HV.out, varL_ge m h1, hc]; simp
      clear hc HV
      go_wp2_with (at_builtin; refine wpList_append_own _ rfl _ _ 22 rfl w.heap.size 5 i0 (.int .u8 0) 1 1 Tryz.underlying22 hi hz0 hzs hzb rfl (by decide) _ acc.length (bcs acc) rfl (owns_below hown (below_alloc _ _)) ⟨wr.heap.size, 0, none⟩ 1 1 [.int .u8 (c.toNat : Int)] rfl rfl (by intro j u hj; match j, hj with | 0, hj => simp at hj; subst hj; simp [Addr.add]) (by intro u hu; simp at hu; subst hu; rfl) (by unfold maxLen; omega) (by omega) (by simp; omega) ?_; intro v' w2 hown2 hgrow2 _)
      go_roundw
      case rel =>
        refine ⟨m / 128, acc ++ [c], by omega, by go_num, ?_, HN.out, (hb.alloc hz _).grown hgrow2 (by simp; omega) (owns_ge hown)⟩
        rw [List.length_append, bcs_append]; exact hown2
      case measure => simp [intOf]; omega

/-- What VarBytes answers. -/
def varT (k : Int) : ByteArray := if 0 ≤ k then ⟨(varL k.toNat).toArray⟩ else ⟨#[]⟩
theorem varT_nat (n : Nat) : varT (n : Int) = ⟨(varL n).toArray⟩ := by simp [varT]
theorem varT_neg (k : Int) (h : k < 0) : varT k = ⟨#[]⟩ := by simp [varT]; omega

set_option maxRecDepth 100000 in
set_option maxHeartbeats 1000000 in
theorem implVar_any (k : Int) (w : World) (h1 : -9223372036854775808 ≤ k) (h2 : k ≤ 9223372036854775807) :
    Calls Tryz.prog 53 #[.int .i64 k] w fun e w' => e = .returned (.tuple #[.string (varT k), .bool (decide (0 ≤ k))]) ∧ Below w.heap.size w w' := by
  obtain ⟨i0, hi, hz0, hzs, hzb⟩ := info_parts Tryz.info5
  by_cases h : k < 0
  · go_enter Tryz.func53, Tryz.ntmps53
    go_wp2
    go_step3
    go_wp2
    rw [Exit.noGoto_ret]
    go_ret2
    exact ⟨by rw [varT_neg k h]; simp; omega, Below.refl _ _⟩
  · obtain ⟨n, rfl⟩ := Int.eq_ofNat_of_zero_le (show 0 ≤ k from by omega)
    go_enter Tryz.func53, Tryz.ntmps53
    go_wp2
    refine wp_scope_jumps2 0 (fun a' w' => ∃ (m : Nat) (acc : List UInt8) (v u7 u8 u9 u10 u11 u12 u13 u14 u15 u16 u17 : Value), a' = { tmps := #[.int .i64 m, undef, .string ⟨#[]⟩, .bool false, v, .int .i64 n, .bool false, u7, u8, u9, u10, u11, u12, u13, u14, u15, u16, u17, undef, undef, undef, undef, undef, undef], defers := [] } ∧ m ≤ n ∧ w'.ownsRow w.heap.size 5 1 v acc.length (bcs acc) ∧ varL n = acc ++ varL m ∧ Below w.heap.size w w') (fun a' _ => (intOf (a'.tmps.getD 0 undef)).toNat) rfl ?_ ?_
    · rintro a' wr ⟨m, acc, v, u7, u8, u9, u10, u11, u12, u13, u14, u15, u16, u17, rfl, hm, hown, hv, hb⟩
      have hl : acc.length ≤ 9 := by
        have := varL_len 8 n (by simpa using (show n < 9223372036854775808 from by omega))
        rw [hv, List.length_append] at this; omega
      have HV : Hid (varL n = acc ++ varL m) := hv
      clear hv
      have hz := hb.size
      by_cases h1 : m < 128
      · obtain ⟨c, hc⟩ : ∃ c : UInt8, c = UInt8.ofNat m := ⟨_, rfl⟩
        have hcn : (c.toNat : Int) = (m : Int) := by rw [hc, UInt8.toNat_ofNat']; omega
        have HN : Hid (varL n = acc ++ [c]) := by show _ = _; rw [HV.out, varL_lt m h1, hc]
        clear hc HV
        go_wp2_with (at_builtin; refine wpList_append_own _ rfl _ _ 22 rfl w.heap.size 5 i0 (.int .u8 0) 1 1 Tryz.underlying22 hi hz0 hzs hzb rfl (by decide) _ acc.length (bcs acc) rfl (owns_below hown (below_alloc _ _)) ⟨wr.heap.size, 0, none⟩ 1 1 [.int .u8 (c.toNat : Int)] rfl rfl (by intro j u hj; match j, hj with | 0, hj => simp at hj; subst hj; simp [Addr.add, hcn]; try omega) (by intro u hu; simp at hu; subst hu; rfl) (by unfold maxLen; omega) (by omega) (by simp; omega) ?_; intro v' w2 hown2 hgrow2 _; obtain ⟨g, cap, rfl⟩ := owns_some hown2; have hcv := conv_back' hown2)
        simp only [Exit.jump]
        go_ret2
        exact ⟨by rw [varT_nat, HN.out]; simp, (hb.alloc hz _).grown hgrow2 (by simp; omega) (owns_ge hown)⟩
      · obtain ⟨c, hc⟩ : ∃ c : UInt8, c = UInt8.ofNat (m % 128 + 128) := ⟨_, rfl⟩
        have hcn : (c.toNat : Int) = (m : Int) % 128 + 128 := by
          rw [hc, UInt8.toNat_ofNat']; omega
        have HN : Hid (varL n = (acc ++ [c]) ++ varL (m / 128)) := by show _ = _; rw [HV.out, varL_ge m h1, hc]; simp
        clear hc HV
        go_wp2_with (at_builtin; refine wpList_append_own _ rfl _ _ 22 rfl w.heap.size 5 i0 (.int .u8 0) 1 1 Tryz.underlying22 hi hz0 hzs hzb rfl (by decide) _ acc.length (bcs acc) rfl (owns_below hown (below_alloc _ _)) ⟨wr.heap.size, 0, none⟩ 1 1 [.int .u8 (c.toNat : Int)] rfl rfl (by intro j u hj; match j, hj with | 0, hj => simp at hj; subst hj; simp [Addr.add]; try omega) (by intro u hu; simp at hu; subst hu; rfl) (by unfold maxLen; omega) (by omega) (by simp; omega) ?_; intro v' w2 hown2 hgrow2 _)
        go_step3

        refine ⟨rfl, ⟨m / 128, acc ++ [c], _, _, _, _, _, _, _, _, _, _, _, _, rfl, by omega, ?_, HN.out, (hb.alloc hz _).grown hgrow2 (by simp; omega) (owns_ge hown)⟩, ?_⟩
        · rw [List.length_append, bcs_append]; exact hown2
        · simp [intOf]; omega
    · intro key
      go_wp2
      go_step3
      rename_i K hK
      show K _ _
      refine hK _ _ (key _ _ ⟨n, [], _, _, _, _, _, _, _, _, _, _, _, _, rfl, Nat.le_refl _, World.ownsRow_nil _ _ _ _, rfl, Below.refl _ _⟩)
end Go.Proofs.YtenbdjlhcadhaaaGreat
