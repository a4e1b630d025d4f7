/-
  A text with one bit turned: impl.turnedBit.
  The chunks that are sent: impl.chunksToSend.
-/
import Derived.Test.YtocaigffikdlhaaTA
import Derived.Test.YtocaigffikdlhaaD2ToD3
import Derived.Deep.RegionHeld3
import Derived.Test.YtocaigffikdlhaaX3
namespace Go.Proofs.Ytocaigffikdlhaa
open Go.RowKit Go.Maps
set_option linter.unusedVariables false
set_option maxRecDepth 100000

/-- byte `c` with bit `z` turned -/
def trB (c : UInt8) (z : Nat) : UInt8 := c ^^^ UInt8.ofNat (2 ^ (z % 8))
def trL (l : List UInt8) (n : Nat) : List UInt8 := l.set (n / 8) (trB (l.getD (n / 8) 0) n)
/-- text `s` with bit `b` turned, if it has one -/
def trS (s : ByteArray) (b : Int) : ByteArray := if 0 ≤ b ∧ b < 8 * (s.size : Int) then ⟨(trL s.data.toList b.toNat).toArray⟩ else s
theorem trL_length (l : List UInt8) (n : Nat) : (trL l n).length = l.length := by simp [trL]
theorem trS_size (s : ByteArray) (b : Int) : (trS s b).size = s.size := by
  unfold trS
  split
  · show (trL s.data.toList b.toNat).toArray.size = s.data.size
    simp [trL_length]
  · rfl
theorem xor_bit (c : UInt8) (z : Nat) : bits BinOp.xor IntKind.u8 (c.toNat : Int) (2 ^ (z % 8) % 256) = ((trB c z).toNat : Int) := by
  have h : z % 8 < 8 := Nat.mod_lt _ (by decide)
  unfold trB
  generalize z % 8 = q at *
  have := c.toNat_lt
  revert c
  have e : ∀ q : Fin 8, ∀ c : Fin 256, bits BinOp.xor IntKind.u8 (c.val : Int) (2 ^ q.val % 256) = ((UInt8.ofNat c.val ^^^ UInt8.ofNat (2 ^ q.val)).toNat : Int) := by
    decide +kernel
  intro c hc
  have := e ⟨q, h⟩ ⟨c.toNat, hc⟩
  simpa using this

set_option maxHeartbeats 4000000 in
theorem turnedBit_any (s : ByteArray) (b : Int) (w : World) (hs : s.size ≤ 1048576) :
    Calls Try.prog 97 #[.string s, .int .i64 b] w fun e w' => e = .returned (.string (trS s b)) ∧ Below w.heap.size w w' := by
  by_cases h0 : b < 0
  · have e0 : Hid (trS s b = s) := by show _ = _; unfold trS; rw [if_neg (by omega)]
    go_enter Try.func97, Try.ntmps97
    go_wp2
    go_ret
    exact ⟨by rw [e0.out]; rfl, Below.refl _ _⟩
  by_cases h1 : 8 * (s.size : Int) ≤ b
  · have e0 : Hid (trS s b = s) := by show _ = _; unfold trS; rw [if_neg (by omega)]
    go_enter Try.func97, Try.ntmps97
    go_wp2
    go_ret
    exact ⟨by rw [e0.out]; rfl, Below.refl _ _⟩
  obtain ⟨n, rfl⟩ : ∃ n : Nat, b = n := ⟨b.toNat, by omega⟩
  have e0 : Hid (trS s n = ⟨(s.data.toList.set (n / 8) (trB (s.data.toList.getD (n / 8) 0) n)).toArray⟩) := by show _ = _; unfold trS; rw [if_pos (by omega)]; rfl
  have hle : s.data.toList.length = s.size := by simp
  have hnl : n / 8 < s.data.toList.length := by omega
  obtain ⟨cap, w1, hcv, hwr, hb1⟩ := bytes_of s w
  have hw2 := (hwr.set _ hnl (trB (s.data.toList.getD (n / 8) 0) n)).below (Below.refl _ _).drew
  have hc1 : w1.cell? ⟨w.heap.size, n / 8, none⟩ = some (.int .u8 ((s.data.toList.getD (n / 8) 0).toNat : Int)) := by
    rw [(hwr.2 _ hnl).1, List.getD_eq_getElem?_getD, List.getElem?_eq_getElem hnl]; rfl
  have hf1 : w1.frozen? ⟨w.heap.size, n / 8, none⟩ = false := (hwr.2 _ hnl).2
  have HV : Hid (bits BinOp.xor IntKind.u8 ((s.data.toList.getD (n / 8) 0).toNat : Int) (2 ^ (n % 8) % 256) = ((trB (s.data.toList.getD (n / 8) 0) n).toNat : Int)) := xor_bit _ _
  have hn1 : n < 8 * s.size := by omega
  have hl2 : Hid ((s.data.toList.set (n / 8) (trB (s.data.toList.getD (n / 8) 0) n)).length = s.size) := by show _ = _; rw [List.length_set]; exact hle
  generalize s.data.toList.getD (n / 8) 0 = c at *
  generalize s.data.toList.set (n / 8) (trB c n) = m at *
  clear hwr hle hnl
  go_enter Try.func97, Try.ntmps97
  go_wp2_with fail
  go_region
  rw [HV.out]
  have hB2 := (hb1.setCell (p := ⟨w.heap.size, n / 8, none⟩) (Nat.le_refl _) (.int .u8 ((trB c n).toNat : Int))).drew
  generalize (w1.setCell ⟨w.heap.size, n / 8, none⟩ (.int .u8 ((trB c n).toNat : Int))).drew = w3 at *
  have hcw := conv_wr (cap := cap) hw2 hl2.out
  clear hw2 hb1 hc1 hf1 HV hcv
  go_wp2
  go_ret
  exact ⟨by rw [e0.out]; rfl, hB2⟩
end Go.Proofs.Ytocaigffikdlhaa

namespace Go.Proofs.Ytocaigffikdlhaa
open Go.RowKit Go.Maps
set_option linter.unusedVariables false
set_option maxRecDepth 100000

instance : Inhabited Ck := ⟨⟨0, 0, ⟨#[]⟩, 0⟩⟩
/-- chunk `c` with bit `b` of its text turned -/
def trC (c : Ck) (b : Int) : Ck := ⟨c.n, c.d, trS c.k b, c.v⟩
/-- what number `k` of the order sends -/
def sd1 (C : List Ck) (O F : List Int) (k : Nat) : List Ck :=
  if 0 ≤ O.getD k 0 ∧ O.getD k 0 < (C.length : Int) then [trC (C.getD (O.getD k 0).toNat default) (F.getD k 0)] else []
/-- what the first `k` numbers of the order send -/
def sdTo (C : List Ck) (O F : List Int) : Nat → List Ck
  | 0 => []
  | k + 1 => sdTo C O F k ++ sd1 C O F k
def sdL (C : List Ck) (O F : List Int) : List Ck := sdTo C O F O.length
theorem sd1_len (C : List Ck) (O F : List Int) (k : Nat) : (sd1 C O F k).length ≤ 1 := by unfold sd1; split <;> simp
theorem sdTo_len (C : List Ck) (O F : List Int) (k : Nat) : (sdTo C O F k).length ≤ k := by
  induction k with
  | zero => simp [sdTo]
  | succ k ih => rw [sdTo, List.length_append]; have := sd1_len C O F k; omega
theorem sd1_at {C : List Ck} {O F : List Int} {k i : Nat} (hk : k < O.length) (hf : k < F.length) (hi : i < C.length) (ho : O[k] = (i : Int)) : sd1 C O F k = [trC C[i] F[k]] := by
  unfold sd1
  have e1 : O.getD k 0 = (i : Int) := by rw [List.getD_eq_getElem?_getD, List.getElem?_eq_getElem hk]; exact ho
  have e2 : F.getD k 0 = F[k] := by rw [List.getD_eq_getElem?_getD, List.getElem?_eq_getElem hf]; rfl
  rw [e1, e2, if_pos ⟨by omega, by omega⟩]
  rw [Int.toNat_natCast, List.getD_eq_getElem?_getD, List.getElem?_eq_getElem hi]; rfl
theorem sd1_no {C : List Ck} {O F : List Int} {k : Nat} (hk : k < O.length) (ho : O[k] < 0 ∨ (C.length : Int) ≤ O[k]) : sd1 C O F k = [] := by
  unfold sd1
  have e1 : O.getD k 0 = O[k] := by rw [List.getD_eq_getElem?_getD, List.getElem?_eq_getElem hk]; rfl
  rw [e1, if_neg (by omega)]

set_option maxHeartbeats 8000000 in
theorem toSend_any (c o f : Value) (C : List Ck) (O F : List Int) (w : World) (hc : IR w c C) (ho : IL w o O) (hf : IL w f F) (hC : C.length ≤ 1048576) (hO : O.length ≤ 1000000) (hF : F.length = O.length) (hs : ∀ i (h : i < C.length), C[i].k.size ≤ 1048576) :
    Calls Try.prog 64 #[c, o, f] w fun e w' => ∃ u, e = .returned u ∧ w'.ownsRow w.heap.size 37 4 u (sdL C O F).length (flat4 (sdL C O F)) ∧ Below w.heap.size w w' := by
  obtain ⟨ca, cb, rfl, hcc⟩ := hc
  obtain ⟨oa, ob, rfl, hoc⟩ := ho
  obtain ⟨fa, fb, rfl, hfc⟩ := hf
  rw [hF]
  go_enter Try.func64, Try.ntmps64
  go_wp2_with fail
  go_loopw [7, 13] (fun v i wr => ∃ k : Nat, k ≤ O.length ∧ i = .int .i64 k ∧ wr.ownsRow w.heap.size 37 4 v (sdTo C O F k).length (flat4 (sdTo C O F k)) ∧ Below w.heap.size w wr) (fun _ i _ => O.length - (intOf i).toNat)
  case atStart => exact ⟨0, Nat.zero_le _, rfl, World.ownsRow_nil _ _ _ _, Below.refl _ _⟩
  case round =>
    obtain ⟨k, hk, rfl, hown, hb⟩ := hrel
    obtain ⟨va, vc, rfl⟩ := owns_shape hown
    by_cases hlt : k < O.length
    · obtain ⟨bo, oo, rfl, hbo, hocell⟩ := hoc (by intro e; simp [e] at hlt)
      obtain ⟨bf, fo, rfl, hbf, hfcell⟩ := hfc (by intro e; simp [e] at hF; omega)
      have c0 := (hb.cell (p := ⟨bo, oo + k, none⟩) hbo).trans (hocell k hlt)
      have d0 := (hb.cell (p := ⟨bf, fo + k, none⟩) hbf).trans (hfcell k (by omega))
      have hz := hb.size
      have HST : Hid (sdTo C O F (k + 1) = sdTo C O F k ++ sd1 C O F k) := rfl
      have hln := sdTo_len C O F k
      by_cases hv : O[k] < 0 ∨ (C.length : Int) ≤ O[k]
      · have HS : Hid (sdTo C O F (k + 1) = sdTo C O F k) := by show _ = _; rw [HST.out, sd1_no hlt hv, List.append_nil]
        clear HST hocell hfcell hoc hfc hcc
        generalize sdTo C O F k = T at *
        generalize O[k] = x at *
        by_cases hx0 : x < 0
        · clear hv
          go_wp2
          go_roundw
          case rel => exact ⟨k + 1, by omega, by go_num, by rw [HS.out]; exact hown, hb⟩
          case measure => simp [intOf]; omega
        · have hx1 : (C.length : Int) ≤ x := by omega
          clear hv
          go_wp2
          go_roundw
          case rel => exact ⟨k + 1, by omega, by go_num, by rw [HS.out]; exact hown, hb⟩
          case measure => simp [intOf]; omega
      · obtain ⟨i, hi⟩ : ∃ i : Nat, O[k] = (i : Int) := ⟨O[k].toNat, by omega⟩
        have hil : i < C.length := by omega
        have HS : Hid (sdTo C O F (k + 1) = sdTo C O F k ++ [trC C[i] F[k]]) := by show _ = _; rw [HST.out, sd1_at hlt (by omega) hil hi]
        obtain ⟨bc, co, rfl, hbc, hccell⟩ := hcc (by intro e; simp [e] at hil)
        obtain ⟨q0, q1, q2, q3⟩ := hccell i hil
        have e0 := (hb.cell (p := ⟨bc, co + i * 4, none⟩) hbc).trans q0
        have e1 := (hb.cell (p := ⟨bc, co + i * 4 + 1, none⟩) hbc).trans q1
        have e2 := (hb.cell (p := ⟨bc, co + i * 4 + 2, none⟩) hbc).trans q2
        have e3 := (hb.cell (p := ⟨bc, co + i * 4 + 3, none⟩) hbc).trans q3
        have hsz := hs i hil
        rw [hi] at c0
        clear q0 q1 q2 q3 hccell HST hocell hfcell hoc hfc hcc hv hs hi
        generalize C[i] = y at *
        generalize F[k] = g at *
        obtain ⟨yn, yd, yk, yv⟩ := y
        dsimp only at *
        have KT := fun w => turnedBit_any yk g w hsz
        have HTC : Hid (trC ⟨yn, yd, yk, yv⟩ g = ⟨yn, yd, trS yk g, yv⟩) := rfl
        rw [HTC.out] at HS
        generalize trS yk g = D at *
        generalize sdTo C O F k = T at *
        have X0 := Box.new wr #[.int .i64 yn, .int .i64 yd, .string yk, .int .u32 yv] 37
        have B0 := below_alloc wr (.cells #[.int .i64 yn, .int .i64 yd, .string yk, .int .u32 yv] 37)
        have bo1 : bo < wr.heap.size := by omega
        have bf1 : bf < wr.heap.size := by omega
        have d1 := (B0.cell (p := ⟨bf, fo + k, none⟩) bf1).trans d0
        go_upto_region 7 with fail
        have hlt0 := owns_below_lt hown
        replace hown := owns_below hown B0
        have hb1 := below_then hb B0
        obtain ⟨W0, hW0⟩ : ∃ W0, W0 = wr.alloc (.cells #[.int .i64 yn, .int .i64 yd, .string yk, .int .u32 yv] 37) := ⟨_, rfl⟩
        rw [← hW0] at X0 B0 d1 hown hb1 ⊢
        have hz0 : wr.heap.size < W0.heap.size := X0.1
        clear hW0 hb B0 c0 d0 e0 e1 e2 e3
        have hD : Below W0.heap.size W0 W0.drew := (Below.refl _ _).drew
        have bf2 : bf < W0.heap.size := by omega
        replace d1 := (hD.cell (p := ⟨bf, fo + k, none⟩) bf2).trans d1
        replace X0 := X0.below hD
        replace hown := owns_below hown hD
        replace hb1 := below_then hb1 hD
        have bf3 : bf < W0.drew.heap.size := Nat.lt_of_lt_of_le bf2 hD.size
        clear hD
        refine wp_region_held_drew (S := fun w' => w'.cell? ⟨bf, fo + k, none⟩ = some (.int .i64 g)) (by kernel_rfl) d1 (fun hHeld => ?_)
        generalize W0.drew = v0 at *
        refine wpAnyH_take (i := 0) (oi := { dst := some 30, op := Op.fieldAddr 37 (Operand.tmp 10) 2, type := 0, pos := "l13_chunk.go:217", after := #[], guard := none }) (v := .pointer (some ⟨wr.heap.size, 2, none⟩)) rfl (by kernel_rfl) (by kernel_rfl) (by kernel_rfl) (fun _ _ _ h => h) (Or.inl ⟨by rfl, ?_⟩) (by assumption) ?_
        · intro wx hSw
          clear hSw hHeld; go_simp
        simp only [Act.put, List.setIfInBounds_toArray, List.set_cons_zero, List.set_cons_succ]
        refine wpAnyH_take (i := 2) (oi := { dst := some 32, op := Op.move (Operand.tmp 2), type := 24, pos := "l13_chunk.go:217", after := #[], guard := none }) (v := .slice (some ⟨bf, fo, none⟩) O.length fb) rfl (by kernel_rfl) (by kernel_rfl) (by kernel_rfl) (fun _ _ _ h => h) (Or.inl ⟨by rfl, ?_⟩) (by assumption) ?_
        · intro wx hSw
          clear hSw hHeld; go_simp
        simp only [Act.put, List.setIfInBounds_toArray, List.set_cons_zero, List.set_cons_succ]
        refine wpAnyH_take (i := 3) (oi := { dst := some 33, op := Op.move (Operand.tmp 8), type := 3, pos := "l13_chunk.go:217", after := #[], guard := none }) (v := .int .i64 k) rfl (by kernel_rfl) (by kernel_rfl) (by kernel_rfl) (fun _ _ _ h => h) (Or.inl ⟨by rfl, ?_⟩) (by assumption) ?_
        · intro wx hSw
          clear hSw hHeld; go_simp
        simp only [Act.put, List.setIfInBounds_toArray, List.set_cons_zero, List.set_cons_succ]
        refine wpAnyH_take (i := 4) (oi := { dst := some 34, op := Op.indexAddr 24 (Operand.tmp 32) (Operand.tmp 33), type := 0, pos := "l13_chunk.go:217", after := #[{ on := 2, ground := Ground.data }, { on := 3, ground := Ground.data }], guard := none }) (v := .pointer (some ⟨bf, fo + k, none⟩)) rfl (by kernel_rfl) (by kernel_rfl) (by kernel_rfl) (fun _ _ _ h => h) (Or.inl ⟨by rfl, ?_⟩) (by assumption) ?_
        · intro wx hSw
          clear hSw hHeld; go_simp
        simp only [Act.put, List.setIfInBounds_toArray, List.set_cons_zero, List.set_cons_succ]
        refine wpAnyH_take (i := 5) (oi := { dst := some 35, op := Op.load 3 (Operand.tmp 34), type := 3, pos := "l13_chunk.go:217", after := #[{ on := 4, ground := Ground.data }], guard := none }) (v := .int .i64 g) rfl (by kernel_rfl) (by kernel_rfl) (by kernel_rfl) (fun _ _ _ h => h) (Or.inl ⟨by rfl, ?_⟩) (by assumption) ?_
        · intro wx hSw
          have e := hSw; clear hHeld hSw; go_simp
        simp only [Act.put, List.setIfInBounds_toArray, List.set_cons_zero, List.set_cons_succ]
        refine wpAnyH_ready (rs := [1]) (by kernel_rfl) (by simp) ?_
        refine AllReadyH.cons (o := { dst := some 31, op := Op.load 9 (Operand.tmp 30), type := 9, pos := "l13_chunk.go:217", after := #[{ on := 0, ground := Ground.data }], guard := none }) rfl (fun K hK => ?_) AllReadyH.nil
        clear hHeld
        have e2 := X0.2.1 2 _ rfl
        go_simp
        refine hK.out _ _ d1 (fun hHeld => ?_)
        clear hK K e2
        refine wpAnyH_ready (rs := [6]) (by kernel_rfl) (by simp) ?_
        refine AllReadyH.cons (o := { dst := some 36, op := Op.call { callee := Callee.value (Operand.func 97), args := #[Operand.tmp 31, Operand.tmp 35], argTypes := #[9, 3] }, type := 9, pos := "l13_chunk.go:217", after := #[{ on := 1, ground := Ground.data }, { on := 5, ground := Ground.data }], guard := none }) rfl (fun K hK => ?_) AllReadyH.nil
        clear hHeld
        go_simp
        refine (KT _).mono ?_
        rintro e v1 ⟨rfl, hb2⟩
        replace d1 := (hb2.cell (p := ⟨bf, fo + k, none⟩) bf3).trans d1
        replace X0 := X0.below hb2
        replace hown := owns_below hown hb2
        replace hb1 := below_then hb1 hb2
        clear hb2 KT
        refine hK.out _ v1 d1 (fun hHeld => ?_)
        clear hK K
        refine wpAnyH_take (i := 7) (oi := { dst := some 37, op := Op.fieldAddr 37 (Operand.tmp 10) 2, type := 0, pos := "l13_chunk.go:217", after := #[{ on := 0, ground := Ground.phase }, { on := 1, ground := Ground.phase }, { on := 2, ground := Ground.phase }, { on := 3, ground := Ground.phase }, { on := 4, ground := Ground.phase }, { on := 5, ground := Ground.phase }, { on := 6, ground := Ground.phase }], guard := none }) (v := .pointer (some ⟨wr.heap.size, 2, none⟩)) rfl (by kernel_rfl) (by kernel_rfl) (by kernel_rfl) (fun _ _ _ h => h) (Or.inl ⟨by rfl, ?_⟩) (by assumption) ?_
        · intro wx hSw
          clear hSw hHeld; go_simp
        simp only [Act.put, List.setIfInBounds_toArray, List.set_cons_zero, List.set_cons_succ]
        refine wpAnyH_ready (rs := [8]) (by kernel_rfl) (by simp) ?_
        refine AllReadyH.cons (o := { dst := none, op := Op.store 9 (Operand.tmp 37) (Operand.tmp 36), type := 0, pos := "l13_chunk.go:217", after := #[{ on := 7, ground := Ground.data }, { on := 6, ground := Ground.data }, { on := 6, ground := Ground.chain }, { on := 0, ground := Ground.phase }, { on := 1, ground := Ground.phase }, { on := 2, ground := Ground.phase }, { on := 3, ground := Ground.phase }, { on := 4, ground := Ground.phase }, { on := 5, ground := Ground.phase }, { on := 6, ground := Ground.phase }], guard := none }) rfl (fun K hK => ?_) AllReadyH.nil
        clear hHeld
        have e2 := X0.2.1 2 _ rfl
        have f2 := X0.2.2 2
        have X1 := X0.set 2 (.string D) (by simp)
        have hown1 := ownsRow_setCell_other hown (a := ⟨wr.heap.size, 2, none⟩) (fun e => by have := hlt0 _ e; simp only at this; omega) (.string D)
        have hb2 := hb1.setCell (p := ⟨wr.heap.size, 2, none⟩) (by simp; omega) (.string D)
        have d2 : (v1.setCell ⟨wr.heap.size, 2, none⟩ (.string D)).cell? ⟨bf, fo + k, none⟩ = some (.int .i64 g) := by
          rw [World.cell?_setCell_far _ _ _ _ (by simp; omega)]; exact d1
        go_simp
        refine hK.out _ (v1.setCell ⟨wr.heap.size, 2, none⟩ (.string D)) d2 (fun hHeld => ?_)
        clear hK K hHeld d1 d2 e2 f2 X0 hown hb1
        generalize v1.setCell ⟨wr.heap.size, 2, none⟩ (.string D) = W3 at *
        refine wpAnyH_done (by kernel_rfl) ?_ _
        replace X1 : Box W3 wr.heap.size [.int .i64 yn, .int .i64 yd, .string D, .int .u32 yv] := X1
        obtain ⟨hx1, z0, z1, z2, z3⟩ := X1.c4
        have hz3 := hb2.size
        have hge := owns_ge hown1
        go_wp2_with (at_builtin; refine wpList_append_ck _ rfl _ _ rfl rfl w.heap.size _ T.length T rfl (owns_below hown1 (below_alloc _ _)) W3.heap.size ⟨yn, yd, D, yv⟩ rfl (Box.new W3 #[.int .i64 yn, .int .i64 yd, .string D, .int .u32 yv] 37) (by omega) (by simp; omega) ?_; intro v' w3 hown3 hgr3)
        obtain ⟨va, vc, rfl⟩ := owns_shape hown3
        have hb3 : Below w.heap.size w w3 := (hb2.alloc hz3 _).grown hgr3 (by simp; omega) hge
        have HO : Hid _ := hown3
        have HLE : Hid ((T ++ [⟨yn, yd, D, yv⟩] : List Ck).length = T.length + 1) := by show _ = _; simp
        clear hown1 hgr3 hb2 hge hown3 X1 z0 z1 z2 z3
        go_wp2
        go_roundw
        case rel => exact ⟨k + 1, by omega, by go_num, by rw [HS.out, HLE.out]; exact HO.out, hb3⟩
        case measure => simp [intOf]; omega
    · obtain rfl : k = O.length := by omega
      clear hoc hfc hcc
      go_wp2
      go_ret
      exact ⟨_, rfl, hown, hb⟩
end Go.Proofs.Ytocaigffikdlhaa
