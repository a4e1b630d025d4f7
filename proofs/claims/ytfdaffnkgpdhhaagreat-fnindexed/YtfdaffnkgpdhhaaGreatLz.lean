/-
  The tail of a block: spec.l6Tail.
  The tail of what is no block; reading a block: spec.l6Read.
  Reading a block: spec.l6Read, spec.ReadBlock.
-/
import Derived.Test.YtfdaffnkgpdhhaaGreatR4
import Derived.Test.YtfdaffnkgpdhhaaGreatRz
import Derived.Test.YtfdaffnkgpdhhaaGreatK2
import Derived.Deep.RegionHeld3
import Derived.Test.YtfdaffnkgpdhhaaGreatBz
import Derived.Test.YtfdaffnkgpdhhaaGreatYw
namespace Go.Proofs.YtfdaffnkgpdhhaaGreat
open Go.RowKit
set_option linter.unusedVariables false
set_option maxRecDepth 100000

/-- Whether the sum at the end is that of what is ahead. -/
def sumOk (s : ByteArray) : Bool := decide (tx (wordL (csum (bl (s.extract 0 (s.size - 4))))) = s.extract (s.size - 4) s.size)
def tlOk (s : ByteArray) : Bool := parts (bl s) && sumOk s
/-- The first k places. -/
def plcs (s : ByteArray) (k : Nat) : List Int := (List.range k).map fun j => ((lo2 (bl s) (fromN (bl s) + 2 * j) : Nat) : Int)
theorem plcs_succ (s : ByteArray) (k : Nat) : plcs s (k + 1) = plcs s k ++ [((lo2 (bl s) (fromN (bl s) + 2 * k) : Nat) : Int)] := by simp [plcs, List.range_succ]
theorem plcs_len (s : ByteArray) (k : Nat) : (plcs s k).length = k := by simp [plcs]
theorem lo2_bits (s : ByteArray) (i : Nat) (h : i + 1 < s.size) : bits BinOp.or IntKind.i64 (s[i].toNat : Int) ((s[i + 1].toNat : Int) * 256) = ((lo2 (bl s) i : Nat) : Int) := by
  have c0 := s[i].toNat_lt
  have c1 := s[i + 1].toNat_lt
  have h1 := (bits_nat .i64 62 (by decide) (fun n h1 h2 => by rw [IntKind.wrap_i64]; omega) s[i].toNat (s[i + 1].toNat * 256) (by omega) (by omega)).2
  rw [show ((s[i + 1].toNat * 256 : Nat) : Int) = (s[i + 1].toNat : Int) * 256 from by omega] at h1
  rw [h1, lo2_at s i h]
  rw [Nat.or_comm, nat_join 8 _ s[i].toNat (by omega) (by omega)]
  omega


def tlA (s : ByteArray) : ByteArray := if tlOk s then s.extract 0 (fromN (bl s)) else ⟨#[]⟩
def tlL (s : ByteArray) : List Int := if tlOk s then plcs s (many (bl s)) else []
theorem Tryz.info3 : (Tryz.prog.info? 3).map (fun i => (i.zero, i.size, i.bytes)) = some (some (.int .i64 0), 1, 8) := by kernel_rfl
theorem one_new (W : World) (x : Int) : ∀ j u, [Value.int .i64 x][j]? = some u → (W.alloc (.cells #[.int .i64 x] 3)).cell? ((⟨W.heap.size, 0, none⟩ : Addr).add j) = some u := by
  intro j u hj
  have hb := Box.new W #[.int .i64 x] 3
  rw [show (⟨W.heap.size, 0, none⟩ : Addr).add j = ⟨W.heap.size, j, none⟩ from by simp [Addr.add]; omega]
  exact hb.2.1 j u hj

set_option maxHeartbeats 4000000 in
theorem l6Tail_yes (s : ByteArray) (w : World) (hs : s.size ≤ 1048576) (hok : tlOk s = true) :
    Calls Tryz.prog 122 #[.string s] w fun e w' => ∃ v, e = .returned (.tuple #[.string (s.extract 0 (fromN (bl s))), v, .bool true]) ∧ w'.ownsRow w.heap.size 3 1 v (many (bl s)) ((plcs s (many (bl s))).map (.int .i64)) ∧ Below w.heap.size w w' := by
  obtain ⟨i0, hi, hz0, hzs, hzb⟩ := info_parts Tryz.info3
  unfold tlOk parts sumOk at hok
  simp only [Bool.and_eq_true, decide_eq_true_eq, bl_len] at hok
  obtain ⟨⟨h6, hm2⟩, hsum⟩ := hok
  obtain ⟨e, he⟩ : ∃ e, s.size = e + 6 := ⟨s.size - 6, by omega⟩
  obtain ⟨d, hd⟩ : ∃ d, d = e + 2 := ⟨_, rfl⟩
  have hd4 : s.size - 4 = d := by omega
  rw [hd4] at hsum
  have hmn : many (bl s) = lo2 (bl s) e := by unfold many; rw [bl_len, he, Nat.add_sub_cancel]
  have hfn : fromN (bl s) = e - 2 * many (bl s) := by unfold fromN; rw [bl_len, he, Nat.add_sub_cancel]
  have hm3 : 2 * many (bl s) ≤ e := by omega
  have PS := plcs_succ s
  have P0 : plcs s 0 = [] := rfl
  have PL := plcs_len s
  have HLO : Hid (∀ k, k < many (bl s) → ∀ (x : fromN (bl s) + 2 * k < s.size) (y : fromN (bl s) + 2 * k + 1 < s.size), bits BinOp.or IntKind.i64 (s[fromN (bl s) + 2 * k].toNat : Int) ((s[fromN (bl s) + 2 * k + 1].toNat : Int) * 256) = ((lo2 (bl s) (fromN (bl s) + 2 * k) : Nat) : Int)) := fun k hk x y => lo2_bits s _ y
  have E1 : (s.size : Int) - 6 = (e : Int) := by omega
  have E2 : (e : Int) + 2 = (d : Int) := by omega
  have hn0 : decide ((e : Int) < 0) = false := decide_eq_false (by omega)
  have heA : e + 6 ≤ s.size := by omega
  have heB : s.size ≤ e + 6 := by omega
  have hSz : (s.extract 0 d).size ≤ 1048576 := by rw [ByteArray.size_extract]; omega
  have KS := fun w => l2Sum_any (s.extract 0 d) w hSz
  have KW := fun w => l2Word_any (csum (bl (s.extract 0 d))) w (csum_lt _)
  rw [show csum (s.extract 0 d).data.toList = csum (bl (s.extract 0 d)) from rfl] at KS
  rw [show (⟨(wordL (csum (bl (s.extract 0 d)))).toArray⟩ : ByteArray) = tx (wordL (csum (bl (s.extract 0 d)))) from rfl, hsum] at KW
  generalize csum (bl (s.extract 0 d)) = cs at *
  have i1 : d ≤ s.size := by omega
  have hne : Nonempty (WC w.heap.size w) := ⟨⟨_, Below.refl _ _⟩⟩
  obtain ⟨f, hf⟩ : ∃ f, f = e + 1 := ⟨_, rfl⟩
  have j0 : e < s.size := by omega
  have j1 : f < s.size := by omega
  have c0 := s[e].toNat_lt
  have c1 := s[f].toNat_lt
  have E3 : (e : Int) + 1 = (f : Int) := by omega
  have V3 : IntKind.i64.wrap (f : Int) = (f : Int) := by rw [IntKind.wrap_i64]; omega
  have V0 : IntKind.i64.wrap (s[e].toNat : Int) = (s[e].toNat : Int) := by rw [IntKind.wrap_i64]; omega
  have V1 : IntKind.i64.wrap (s[f].toNat : Int) = (s[f].toNat : Int) := by rw [IntKind.wrap_i64]; omega
  have V2 : IntKind.i64.wrap ((s[f].toNat : Int) * 256) = (s[f].toNat : Int) * 256 := by rw [IntKind.wrap_i64]; omega
  have V4 : bits BinOp.or IntKind.i64 (s[e].toNat : Int) ((s[f].toNat : Int) * 256) = ((many (bl s) : Nat) : Int) := by subst hf; rw [hmn]; exact lo2_bits s e j1
  have hml := lo2_lt (bl s) e
  rw [← hmn] at hml
  clear hf hmn hd hd4 he hsum h6 hm2
  have HPS : Hid (∀ k, plcs s (k + 1) = plcs s k ++ [((lo2 (bl s) (fromN (bl s) + 2 * k) : Nat) : Int)]) := PS
  clear PS
  obtain ⟨fr, hfr⟩ : ∃ fr, fr = fromN (bl s) := ⟨_, rfl⟩
  rw [← hfr] at HPS HLO hfn ⊢
  clear hfr
  generalize hmm : many (bl s) = m at *
  clear hmm
  have F1 : (e : Int) - 2 * (m : Int) = (fr : Int) := by omega
  have hfre : fr ≤ e := by omega
  have hfrs : fr ≤ s.size := by omega
  have hfm : fr + 2 * m ≤ e := by omega
  have hfm2 : e ≤ fr + 2 * m := by omega
  have nF : ¬ (fr : Int) < 0 := by omega
  clear hfn hm3
  generalize plcs s = PZ at *
  go_enter Tryz.func122, Tryz.ntmps122
  go_wp2_with fail
  refine wp_region_calm (B := w.heap.size) (W := w) (by kernel_rfl) (by kernel_rfl) (Below.refl _ _) ?_
  repeat (go_big_quiet_step (first | (go_at_call 78; with_reducible exact calm_of_below (Nat.le_refl _) (KS _)) | (go_at_call 77; with_reducible exact calm_of_below (Nat.le_refl _) (KW _))))
  refine wpQuiet_nil ?_
  intro _ hw'
  obtain ⟨x, hx⟩ := hw'
  subst hx
  have hB1 := x.ok
  clear KS KW hne
  generalize x.w = w1 at *
  clear x
  go_wp2_with fail
  go_quiet (fail)
  clear V0 V1 V2 V3 V4 c0 c1 E3 hn0 E2 hSz
  have hB2 := below_drewN hB1 nq
  clear hB1
  go_wp2
  go_loopw [8, 9] (fun v i wr => ∃ k : Nat, k ≤ m ∧ i = .int .i64 ((fr + 2 * k : Nat) : Int) ∧ wr.ownsRow w.heap.size 3 1 v k ((PZ k).map (.int .i64)) ∧ Below w.heap.size w wr) (fun _ i _ => e - (intOf i).toNat)
  case atStart => exact ⟨0, Nat.zero_le _, by simp, by rw [P0]; exact World.ownsRow_nil _ _ _ _, hB2⟩
  case round =>
    clear hB2
    obtain ⟨k, hk, rfl, hown, hb⟩ := hrel
    obtain ⟨p, hp⟩ : ∃ p, p = fr + 2 * k := ⟨_, rfl⟩
    rw [← hp]
    by_cases hlt : k < m
    · obtain ⟨q, hq⟩ : ∃ q, q = p + 1 := ⟨_, rfl⟩
      have j0 : p < s.size := by omega
      have j1 : q < s.size := by omega
      have c0 := s[p].toNat_lt
      have c1 := s[q].toNat_lt
      have E3 : (p : Int) + 1 = (q : Int) := by omega
      have V3 : IntKind.i64.wrap (q : Int) = (q : Int) := by rw [IntKind.wrap_i64]; omega
      have V0 : IntKind.i64.wrap (s[p].toNat : Int) = (s[p].toNat : Int) := by rw [IntKind.wrap_i64]; omega
      have V1 : IntKind.i64.wrap (s[q].toNat : Int) = (s[q].toNat : Int) := by rw [IntKind.wrap_i64]; omega
      have V2 : IntKind.i64.wrap ((s[q].toNat : Int) * 256) = (s[q].toNat : Int) * 256 := by rw [IntKind.wrap_i64]; omega
      have V4 : bits BinOp.or IntKind.i64 (s[p].toNat : Int) ((s[q].toNat : Int) * 256) = ((lo2 (bl s) p : Nat) : Int) := by subst hq hp; exact HLO.out k hlt (by omega) (by omega)
      have HP : Hid (PZ (k + 1) = PZ k ++ [((lo2 (bl s) p : Nat) : Int)]) := by rw [hp]; exact HPS.out k
      generalize lo2 (bl s) p = y at *
      have hpe : (p : Int) < (e : Int) := by omega
      have hp2 : p + 2 ≤ s.size := by omega
      have hpk : p = fr + 2 * k := hp
      have HPK : Hid (p = fr + 2 * k) := hpk
      clear hq hp hpk HLO HPS
      have hz := hb.size
      go_wp2_with fail
      have hD : Below wr.heap.size wr wr.drew := (Below.refl _ _).drew
      replace hown := owns_below hown hD
      replace hb := below_then hb hD
      clear hD
      refine wp_region_held_drew (S := fun _ => True) (by kernel_rfl) trivial (fun hHeld => ?_)
      generalize wr.drew = v0 at *
      refine wpAnyH_take (i := 0) (oi := { dst := some 51, op := Op.move (Operand.tmp 8), type := 83, pos := "l6_block.go:60", after := #[], guard := none }) (v := u8) rfl (by kernel_rfl) (by kernel_rfl) (by kernel_rfl) (fun _ _ _ h => h) (Or.inl ⟨by rfl, ?_⟩) (by assumption) ?_
      · intro wx hSw
        clear hSw hHeld; go_simp; try omega
      simp only [Act.put, List.setIfInBounds_toArray, List.set_cons_zero, List.set_cons_succ]
      refine wpAnyH_take (i := 1) (oi := { dst := some 52, op := Op.move (Operand.tmp 0), type := 9, pos := "l6_block.go:60", after := #[], guard := none }) (v := .string s) rfl (by kernel_rfl) (by kernel_rfl) (by kernel_rfl) (fun _ _ _ h => h) (Or.inl ⟨by rfl, ?_⟩) (by assumption) ?_
      · intro wx hSw
        clear hSw hHeld; go_simp; try omega
      simp only [Act.put, List.setIfInBounds_toArray, List.set_cons_zero, List.set_cons_succ]
      refine wpAnyH_take (i := 2) (oi := { dst := some 53, op := Op.move (Operand.tmp 9), type := 3, pos := "l6_block.go:60", after := #[], guard := none }) (v := .int .i64 (p : Int)) rfl (by kernel_rfl) (by kernel_rfl) (by kernel_rfl) (fun _ _ _ h => h) (Or.inl ⟨by rfl, ?_⟩) (by assumption) ?_
      · intro wx hSw
        clear hSw hHeld; go_simp; try omega
      simp only [Act.put, List.setIfInBounds_toArray, List.set_cons_zero, List.set_cons_succ]
      refine wpAnyH_take (i := 3) (oi := { dst := some 54, op := Op.index 9 (Operand.tmp 52) (Operand.tmp 53), type := 5, pos := "l6_block.go:60", after := #[{ on := 1, ground := Ground.data }, { on := 2, ground := Ground.data }], guard := none }) (v := .int .u8 (s[p].toNat : Int)) rfl (by kernel_rfl) (by kernel_rfl) (by kernel_rfl) (fun _ _ _ h => h) (Or.inl ⟨by rfl, ?_⟩) (by assumption) ?_
      · intro wx hSw
        clear hSw hHeld; go_simp; try omega
      simp only [Act.put, List.setIfInBounds_toArray, List.set_cons_zero, List.set_cons_succ]
      refine wpAnyH_take (i := 4) (oi := { dst := some 55, op := Op.convert 5 3 (Operand.tmp 54), type := 3, pos := "l6_block.go:60", after := #[{ on := 3, ground := Ground.data }], guard := none }) (v := .int .i64 (s[p].toNat : Int)) rfl (by kernel_rfl) (by kernel_rfl) (by kernel_rfl) (fun _ _ _ h => h) (Or.inl ⟨by rfl, ?_⟩) (by assumption) ?_
      · intro wx hSw
        clear hSw hHeld; go_simp; try omega
      simp only [Act.put, List.setIfInBounds_toArray, List.set_cons_zero, List.set_cons_succ]
      refine wpAnyH_take (i := 5) (oi := { dst := some 56, op := Op.move (Operand.tmp 0), type := 9, pos := "l6_block.go:60", after := #[], guard := none }) (v := .string s) rfl (by kernel_rfl) (by kernel_rfl) (by kernel_rfl) (fun _ _ _ h => h) (Or.inl ⟨by rfl, ?_⟩) (by assumption) ?_
      · intro wx hSw
        clear hSw hHeld; go_simp; try omega
      simp only [Act.put, List.setIfInBounds_toArray, List.set_cons_zero, List.set_cons_succ]
      refine wpAnyH_take (i := 6) (oi := { dst := some 57, op := Op.move (Operand.tmp 9), type := 3, pos := "l6_block.go:60", after := #[], guard := none }) (v := .int .i64 (p : Int)) rfl (by kernel_rfl) (by kernel_rfl) (by kernel_rfl) (fun _ _ _ h => h) (Or.inl ⟨by rfl, ?_⟩) (by assumption) ?_
      · intro wx hSw
        clear hSw hHeld; go_simp; try omega
      simp only [Act.put, List.setIfInBounds_toArray, List.set_cons_zero, List.set_cons_succ]
      refine wpAnyH_take (i := 7) (oi := { dst := some 58, op := Op.binOp BinOp.add 3 (Operand.tmp 57) (Operand.const (Value.int IntKind.i64 1)) 3, type := 3, pos := "l6_block.go:60", after := #[{ on := 6, ground := Ground.data }], guard := none }) (v := .int .i64 (q : Int)) rfl (by kernel_rfl) (by kernel_rfl) (by kernel_rfl) (fun _ _ _ h => h) (Or.inl ⟨by rfl, ?_⟩) (by assumption) ?_
      · intro wx hSw
        clear hSw hHeld; go_simp; try omega
      simp only [Act.put, List.setIfInBounds_toArray, List.set_cons_zero, List.set_cons_succ]
      refine wpAnyH_take (i := 8) (oi := { dst := some 59, op := Op.index 9 (Operand.tmp 56) (Operand.tmp 58), type := 5, pos := "l6_block.go:60", after := #[{ on := 5, ground := Ground.data }, { on := 7, ground := Ground.data }], guard := none }) (v := .int .u8 (s[q].toNat : Int)) rfl (by kernel_rfl) (by kernel_rfl) (by kernel_rfl) (fun _ _ _ h => h) (Or.inl ⟨by rfl, ?_⟩) (by assumption) ?_
      · intro wx hSw
        clear hSw hHeld; go_simp; try omega
      simp only [Act.put, List.setIfInBounds_toArray, List.set_cons_zero, List.set_cons_succ]
      refine wpAnyH_take (i := 9) (oi := { dst := some 60, op := Op.convert 5 3 (Operand.tmp 59), type := 3, pos := "l6_block.go:60", after := #[{ on := 8, ground := Ground.data }], guard := none }) (v := .int .i64 (s[q].toNat : Int)) rfl (by kernel_rfl) (by kernel_rfl) (by kernel_rfl) (fun _ _ _ h => h) (Or.inl ⟨by rfl, ?_⟩) (by assumption) ?_
      · intro wx hSw
        clear hSw hHeld; go_simp; try omega
      simp only [Act.put, List.setIfInBounds_toArray, List.set_cons_zero, List.set_cons_succ]
      refine wpAnyH_take (i := 10) (oi := { dst := some 61, op := Op.binOp BinOp.shl 3 (Operand.tmp 60) (Operand.const (Value.int IntKind.u64 8)) 132, type := 3, pos := "l6_block.go:60", after := #[{ on := 9, ground := Ground.data }], guard := none }) (v := .int .i64 ((s[q].toNat : Int) * 256)) rfl (by kernel_rfl) (by kernel_rfl) (by kernel_rfl) (fun _ _ _ h => h) (Or.inl ⟨by rfl, ?_⟩) (by assumption) ?_
      · intro wx hSw
        clear hSw hHeld; go_simp; try omega
      simp only [Act.put, List.setIfInBounds_toArray, List.set_cons_zero, List.set_cons_succ]
      refine wpAnyH_take (i := 11) (oi := { dst := some 62, op := Op.binOp BinOp.or 3 (Operand.tmp 55) (Operand.tmp 61) 3, type := 3, pos := "l6_block.go:60", after := #[{ on := 4, ground := Ground.data }, { on := 10, ground := Ground.data }], guard := none }) (v := .int .i64 (y : Int)) rfl (by kernel_rfl) (by kernel_rfl) (by kernel_rfl) (fun _ _ _ h => h) (Or.inl ⟨by rfl, ?_⟩) (by assumption) ?_
      · intro wx hSw
        clear hSw hHeld; go_simp; try omega
      simp only [Act.put, List.setIfInBounds_toArray, List.set_cons_zero, List.set_cons_succ]
      refine wpAnyH_ready (rs := [12]) (by kernel_rfl) (by simp) ?_
      refine AllReadyH.cons (o := { dst := some 63, op := Op.buildSlice 83 1 #[(0, Operand.tmp 62)], type := 83, pos := "l6_block.go:60", after := #[{ on := 11, ground := Ground.data }], guard := none }) rfl (fun K hK => ?_) AllReadyH.nil
      go_simp
      refine hK.out _ (v0.alloc (.cells #[.int .i64 (y : Int)] 3)) trivial (fun hHeld => ?_)
      clear hK K
      refine wpAnyH_ready (rs := [13]) (by kernel_rfl) (by simp) ?_
      refine AllReadyH.cons (o := { dst := some 64, op := Op.call { callee := Callee.builtin Builtin.append, args := #[Operand.tmp 51, Operand.tmp 63], argTypes := #[83, 83] }, type := 83, pos := "l6_block.go:60", after := #[{ on := 0, ground := Ground.data }, { on := 12, ground := Ground.data }], guard := none }) rfl (fun K hK => ?_) AllReadyH.nil
      rw [if_pos (by rfl)]
      refine wp_append_own _ _ _ 83 (by rfl) w.heap.size 3 i0 (.int .i64 0) 1 8 Tryz.underlying83 hi hz0 hzs hzb rfl (by decide) u8 k ((PZ k).map (.int .i64)) (by rfl) (owns_below hown (below_alloc _ _)) ⟨v0.heap.size, 0, none⟩ 1 1 [.int .i64 (y : Int)] (by rfl) rfl (one_new v0 y) (by intro u hu; simp at hu; subst hu; rfl) (by unfold maxLen; omega) (by omega) (by have := hb.size; simp; omega) ?_
      intro v' v2 hown2 hgrow2 _
      refine hK.out _ v2 trivial (fun hHeld => ?_)
      clear hK K
      have hb2 := (hb.alloc hb.size (.cells #[.int .i64 (y : Int)] 3)).grown hgrow2 (by have := hb.size; simp; omega) (owns_ge hown)
      clear hown hgrow2 hb
      simp only [Act.put, List.setIfInBounds_toArray, List.set_cons_zero, List.set_cons_succ]
      refine wpAnyH_take (i := 14) (oi := { dst := some 8, op := Op.assign (Operand.tmp 64), type := 83, pos := "l6_block.go:60", after := #[{ on := 13, ground := Ground.data }, { on := 13, ground := Ground.chain }, { on := 0, ground := Ground.phase }, { on := 1, ground := Ground.phase }, { on := 2, ground := Ground.phase }, { on := 3, ground := Ground.phase }, { on := 4, ground := Ground.phase }, { on := 5, ground := Ground.phase }, { on := 6, ground := Ground.phase }, { on := 7, ground := Ground.phase }, { on := 8, ground := Ground.phase }, { on := 9, ground := Ground.phase }, { on := 10, ground := Ground.phase }, { on := 11, ground := Ground.phase }, { on := 12, ground := Ground.phase }, { on := 13, ground := Ground.phase }], guard := none }) (v := v') rfl (by kernel_rfl) (by kernel_rfl) (by kernel_rfl) (fun _ _ _ h => h) (Or.inl ⟨by rfl, ?_⟩) (by assumption) ?_
      · intro wx hSw
        clear hSw hHeld; go_simp; try omega
      simp only [Act.put, List.setIfInBounds_toArray, List.set_cons_zero, List.set_cons_succ]
      refine wpAnyH_done (by kernel_rfl) ?_ _
      go_wp2
      go_roundw
      case rel =>
        refine ⟨k + 1, by omega, ?_, ?_, hb2⟩
        · rw [HPK.out]; go_num
        · rw [HP.out, List.map_append]; exact hown2
      case measure => simp [intOf]; omega
    · obtain rfl : k = m := by omega
      have hpe : ¬ (p : Int) < (e : Int) := by omega
      clear hp HLO HPS
      go_wp2
      refine bodyPost_ret (v := .tuple #[.string (s.extract 0 fr), u8, .bool true]) ?_ rfl ⟨u8, rfl, hown, hb⟩
      simp [results, Tryz.results122, go_sem]
end Go.Proofs.YtfdaffnkgpdhhaaGreat

namespace Go.Proofs.YtfdaffnkgpdhhaaGreat
open Go.RowKit
set_option linter.unusedVariables false
set_option maxRecDepth 100000

set_option maxHeartbeats 4000000 in
theorem l6Tail_no (s : ByteArray) (w : World) (hs : s.size ≤ 1048576) (hno : tlOk s = false) :
    Calls Tryz.prog 122 #[.string s] w fun e w' => e = .returned (.tuple #[.string ⟨#[]⟩, .slice none 0 0, .bool false]) ∧ Below w.heap.size w w' := by
  have hne : Nonempty (WC w.heap.size w) := ⟨⟨_, Below.refl _ _⟩⟩
  by_cases h6 : 6 ≤ s.size
  · obtain ⟨e, he⟩ : ∃ e, s.size = e + 6 := ⟨s.size - 6, by omega⟩
    obtain ⟨d, hd⟩ : ∃ d, d = e + 2 := ⟨_, rfl⟩
    have hmn : many (bl s) = lo2 (bl s) e := by unfold many; rw [bl_len, he, Nat.add_sub_cancel]
    have HF : Hid ((decide (2 * many (bl s) ≤ e) && decide (tx (wordL (csum (bl (s.extract 0 d)))) = s.extract d s.size)) = false) := by
      show _ = _
      unfold tlOk parts sumOk at hno
      rw [bl_len, show s.size - 6 = e from by omega, show s.size - 4 = d from by omega, decide_eq_true h6, Bool.true_and] at hno
      exact hno
    clear hno
    have E1 : (s.size : Int) - 6 = (e : Int) := by omega
    have E2 : (e : Int) + 2 = (d : Int) := by omega
    have hn0 : decide ((e : Int) < 0) = false := decide_eq_false (by omega)
    have heA : e + 6 ≤ s.size := by omega
    have heB : s.size ≤ e + 6 := by omega
    have hSz : (s.extract 0 d).size ≤ 1048576 := by rw [ByteArray.size_extract]; omega
    have KS := fun w => l2Sum_any (s.extract 0 d) w hSz
    have KW := fun w => l2Word_any (csum (bl (s.extract 0 d))) w (csum_lt _)
    rw [show csum (s.extract 0 d).data.toList = csum (bl (s.extract 0 d)) from rfl] at KS
    rw [show (⟨(wordL (csum (bl (s.extract 0 d)))).toArray⟩ : ByteArray) = tx (wordL (csum (bl (s.extract 0 d)))) from rfl] at KW
    generalize tx (wordL (csum (bl (s.extract 0 d)))) = T at *
    generalize csum (bl (s.extract 0 d)) = cs at *
    have i1 : d ≤ s.size := by omega
    obtain ⟨f, hf⟩ : ∃ f, f = e + 1 := ⟨_, rfl⟩
    have j0 : e < s.size := by omega
    have j1 : f < s.size := by omega
    by_cases hT : T = s.extract d s.size
    · have hm3 : ¬ 2 * many (bl s) ≤ e := fun h => by have := HF.out; rw [decide_eq_true h, decide_eq_true hT] at this; cases this
      have c0 := s[e].toNat_lt
      have c1 := s[f].toNat_lt
      have E3 : (e : Int) + 1 = (f : Int) := by omega
      have V3 : IntKind.i64.wrap (f : Int) = (f : Int) := by rw [IntKind.wrap_i64]; omega
      have V0 : IntKind.i64.wrap (s[e].toNat : Int) = (s[e].toNat : Int) := by rw [IntKind.wrap_i64]; omega
      have V1 : IntKind.i64.wrap (s[f].toNat : Int) = (s[f].toNat : Int) := by rw [IntKind.wrap_i64]; omega
      have V2 : IntKind.i64.wrap ((s[f].toNat : Int) * 256) = (s[f].toNat : Int) * 256 := by rw [IntKind.wrap_i64]; omega
      have V4 : bits BinOp.or IntKind.i64 (s[e].toNat : Int) ((s[f].toNat : Int) * 256) = ((many (bl s) : Nat) : Int) := by subst hf; rw [hmn]; exact lo2_bits s e j1
      have hml := lo2_lt (bl s) e
      rw [← hmn] at hml
      subst hT
      clear hf hmn hd he HF h6
      generalize many (bl s) = m at *
      have F1 : (e : Int) - 2 * (m : Int) < 0 := by omega
      clear hm3
      go_enter Tryz.func122, Tryz.ntmps122
      go_wp2_with fail
      refine wp_region_calm (B := w.heap.size) (W := w) (by kernel_rfl) (by kernel_rfl) (Below.refl _ _) ?_
      repeat (go_big_quiet_step (first | (go_at_call 78; with_reducible exact calm_of_below (Nat.le_refl _) (KS _)) | (go_at_call 77; with_reducible exact calm_of_below (Nat.le_refl _) (KW _))))
      refine wpQuiet_nil ?_
      intro _ hw'
      obtain ⟨x, hx⟩ := hw'
      subst hx
      have hB1 := x.ok
      clear KS KW hne
      generalize x.w = w1 at *
      clear x
      go_wp2_with fail
      go_quiet (fail)
      have hB2 := below_drewN hB1 nq
      go_wp2
      refine bodyPost_ret (v := .tuple #[.string ⟨#[]⟩, .slice none 0 0, .bool false]) ?_ rfl ⟨rfl, hB2⟩
      simp [results, Tryz.results122, go_sem]
    · have hT2 : (T.toList == (s.extract d s.size).toList) = false := by
        rw [Bool.eq_false_iff]
        intro h
        apply hT
        have := eq_of_beq h
        rw [ByteArray.toList_eq, ByteArray.toList_eq] at this
        exact bl_inj this
      clear hf hmn hd he HF h6 hT
      go_enter Tryz.func122, Tryz.ntmps122
      go_wp2_with fail
      refine wp_region_calm (B := w.heap.size) (W := w) (by kernel_rfl) (by kernel_rfl) (Below.refl _ _) ?_
      repeat (go_big_quiet_step (first | (go_at_call 78; with_reducible exact calm_of_below (Nat.le_refl _) (KS _)) | (go_at_call 77; with_reducible exact calm_of_below (Nat.le_refl _) (KW _))))
      refine wpQuiet_nil ?_
      intro _ hw'
      obtain ⟨x, hx⟩ := hw'
      subst hx
      have hB1 := x.ok
      clear KS KW hne
      generalize x.w = w1 at *
      clear x
      go_wp2
      refine bodyPost_ret (v := .tuple #[.string ⟨#[]⟩, .slice none 0 0, .bool false]) ?_ rfl ⟨rfl, hB1⟩
      simp [results, Tryz.results122, go_sem]
  · have E1 : (s.size : Int) - 6 < 0 := by omega
    have E2 : decide ((s.size : Int) - 6 < 0) = true := decide_eq_true E1
    clear hno
    go_enter Tryz.func122, Tryz.ntmps122
    go_wp2_with fail
    refine wp_region_calm (B := w.heap.size) (W := w) (by kernel_rfl) (by kernel_rfl) (Below.refl _ _) ?_
    repeat (go_big_quiet_step (fail))
    refine wpQuiet_nil ?_
    intro _ hw'
    obtain ⟨x, hx⟩ := hw'
    subst hx
    have hB1 := x.ok
    clear hne
    generalize x.w = w1 at *
    clear x
    go_wp2
    refine bodyPost_ret (v := .tuple #[.string ⟨#[]⟩, .slice none 0 0, .bool false]) ?_ rfl ⟨rfl, hB1⟩
    simp [results, Tryz.results122, go_sem]
end Go.Proofs.YtfdaffnkgpdhhaaGreat

namespace Go.Proofs.YtfdaffnkgpdhhaaGreat
open Go.RowKit
set_option linter.unusedVariables false
set_option maxRecDepth 100000

/-- Where the reading of a run's block stands. -/
def Stand (s : ByteArray) (acc : List It) (key body : ByteArray) : Prop :=
  ∀ l, goodR l = true → l.length ≤ 40 → blkL l = bl s → acc.length ≤ l.length ∧ acc = l.take acc.length ∧ bl body = restL l acc.length ∧ bl key = ahead l acc.length
theorem stand_start (s : ByteArray) (h : tlOk s = true) : Stand s [] ⟨#[]⟩ (s.extract 0 (fromN (bl s))) := by
  intro l hg hl e
  have hp := blk_parts (l := l) (by omega)
  rw [e] at hp
  refine ⟨Nat.zero_le _, by simp, ?_, rfl⟩
  rw [List.length_nil, rest_zero, bl_to, hp.2, ← e, blk_items]
theorem tail_of (s : ByteArray) {l : List It} (hg : goodR l = true) (hl : l.length ≤ 40) (e : blkL l = bl s) : tlOk s = true := by
  have hp := blk_parts (l := l) (by omega)
  rw [e] at hp
  have hs := blk_sum l
  rw [e, bl_len] at hs
  unfold tlOk sumOk
  rw [hp.1, Bool.true_and, decide_eq_true_eq]
  apply bl_inj
  rw [bl_tx, bl_to, hs.1, bl_from, hs.2]
theorem stand_next {s : ByteArray} {acc : List It} {key body : ByteArray} (h : Stand s acc key body) (hb : body.size ≠ 0) {l : List It} (hg : goodR l = true) (hl : l.length ≤ 40) (e : blkL l = bl s) :
    rdSok body key = true ∧ rdIt (bl body) (bl key) = l.getD acc.length default ∧ acc.length < l.length ∧ (bl body).drop (rdN (bl body)) = restL l (acc.length + 1) := by
  obtain ⟨h1, h2, h3, h4⟩ := h l hg hl e
  have hlt : acc.length < l.length := by
    rcases Nat.lt_or_ge acc.length l.length with h5 | h5
    · exact h5
    · exfalso
      have h6 : acc.length = l.length := by omega
      rw [h6, rest_end] at h3
      apply hb
      rw [← bl_len, h3]; rfl
  obtain ⟨b1, b2, b3, b4, b5⟩ := rd_back (goodR_at hg hlt) (restL l (acc.length + 1))
  rw [← rest_step l _ hlt, ← h3] at b1 b2 b3 b4 b5
  rw [← h4] at b1 b2
  refine ⟨?_, b2, hlt, ?_⟩
  · unfold rdSok
    rw [b1, decide_eq_true b4, decide_eq_true b5]; rfl
  · rw [b3, h3, rest_step l _ hlt, List.drop_left]
theorem stand_step {s : ByteArray} {acc : List It} {key body : ByteArray} (h : Stand s acc key body) (hb : body.size ≠ 0) :
    Stand s (acc ++ [rdIt (bl body) (bl key)]) (rdIt (bl body) (bl key)).k (body.extract (rdN (bl body)) body.size) := by
  intro l hg hl e
  obtain ⟨h1, h2, h3, h4⟩ := h l hg hl e
  obtain ⟨g1, g2, g3, g4⟩ := stand_next h hb hg hl e
  have hlen : (acc ++ [rdIt (bl body) (bl key)]).length = acc.length + 1 := by simp
  rw [hlen]
  refine ⟨by omega, ?_, ?_, ?_⟩
  · rw [List.take_succ_eq_append_getElem g3, ← h2, g2, getD_at l _ g3]
  · rw [bl_from, g4]
  · rw [ahead_succ, g2]
theorem stand_stop {s : ByteArray} {acc : List It} {key body : ByteArray} (h : Stand s acc key body) (hb : body.size ≠ 0) (hno : rdSok body key = false) : RdRes (bl s) [] false := by
  refine .inr ⟨rfl, rfl, fun l hg hl e => ?_⟩
  have := (stand_next h hb hg hl e).1
  rw [hno] at this; cases this
/-- What the last look says. -/
theorem stand_end {s : ByteArray} {acc : List It} {key body : ByteArray} (h : Stand s acc key body) (hend : body.size = 0 ∨ 40 < acc.length) :
    RdRes (bl s) (if okBlk acc && decide (tx (blkL acc) = s) then acc else []) (okBlk acc && decide (tx (blkL acc) = s)) := by
  cases hc : okBlk acc && decide (tx (blkL acc) = s) with
  | true =>
    rw [if_pos rfl]
    rw [Bool.and_eq_true, decide_eq_true_eq] at hc
    obtain ⟨h1, h2⟩ := hc
    unfold okBlk at h1
    rw [Bool.and_eq_true, decide_eq_true_eq] at h1
    exact .inl ⟨rfl, h1.1, h1.2, by rw [← h2, bl_tx]⟩
  | false =>
    rw [if_neg (by simp)]
    refine .inr ⟨rfl, rfl, fun l hg hl e => ?_⟩
    obtain ⟨h1, h2, h3, h4⟩ := h l hg hl e
    have hal : acc = l := by
      rcases hend with h5 | h5
      · have h6 : bl body = [] := List.eq_nil_of_length_eq_zero (by rw [bl_len]; exact h5)
        rw [h6] at h3
        have h7 := rest_nil h1 h3.symm
        rw [h2, h7, List.take_length]
      · omega
    subst hal
    have hB : okBlk acc = true := by unfold okBlk; rw [hg, decide_eq_true hl]; rfl
    have hF : tx (blkL acc) = s := bl_inj (by rw [bl_tx]; exact e)
    rw [hB, decide_eq_true hF] at hc
    cases hc

/-- What reading a block answers and leaves. -/
def RdPost (s : ByteArray) (w : World) (e : Ending) (w' : World) : Prop := ∃ l ok v, e = .returned (.tuple #[v, .bool ok]) ∧ RdRes (bl s) l ok ∧ w'.ownsRow w.heap.size 33 4 v l.length (flat4 l) ∧ Below w.heap.size w w'
theorem RdPost.mk {s : ByteArray} {w w' : World} {l : List It} {ok : Bool} {v : Value} (h1 : RdRes (bl s) l ok) (h2 : w'.ownsRow w.heap.size 33 4 v l.length (flat4 l)) (h3 : Below w.heap.size w w') : RdPost s w (.returned (.tuple #[v, .bool ok])) w' := ⟨l, ok, v, rfl, h1, h2, h3⟩
theorem owns_below_lt {w : World} {base : Nat} {e : TypeId} {size : Nat} {v : Value} {n : Nat} {xs : List Value} (h : w.ownsRow base e size v n xs) : ∀ b, v.ownBlock = some b → b < w.heap.size := by
  intro b hb
  rcases h.2 with ⟨rfl, _⟩ | ⟨g, cap, cur, rfl, _, hh, _⟩
  · simp [Value.ownBlock] at hb
  · simp only [Value.ownBlock, Option.some.injEq] at hb
    subst hb
    exact (Array.getElem?_eq_some_iff.1 hh).1
theorem box_grown {X Y : World} {row : Option Nat} {b : Nat} {vs : List Value} (h : Box X b vs) (hg : X.grownBy Y row) (hr : some b ≠ row) : Box Y b vs := by
  obtain ⟨h1, h2, h3⟩ := h
  have he : Y.heap[b]? = X.heap[b]? := hg.block b h1 hr
  refine ⟨Nat.lt_of_lt_of_le h1 hg.size, fun j u hu => ?_, fun j => ?_⟩
  · rw [← h2 j u hu]; simp [World.cell?, he]
  · rw [← h3 j]; simp [World.frozen?, he]

set_option maxHeartbeats 8000000 in
theorem l6Read_any (s : ByteArray) (w : World) (hs : s.size ≤ 1048576) :
    Calls Tryz.prog 91 #[.string s] w fun e w' => RdPost s w e w' := by
  obtain ⟨i0, hi, hz0, hzs, hzb⟩ := info_parts Tryz.info33
  cases hok : tlOk s with
  | false =>
    have hres : RdRes (bl s) [] false := .inr ⟨rfl, rfl, fun l hg hl e => by have := tail_of s hg hl e; rw [hok] at this; cases this⟩
    have K := fun w => l6Tail_no s w hs hok
    clear hok
    go_enter Tryz.func91, Tryz.ntmps91
    go_wp2_with fail
    refine (K _).mono ?_
    rintro e w1 ⟨rfl, hb1⟩
    go_wp2
    refine bodyPost_ret (v := .tuple #[.slice none 0 0, .bool false]) ?_ rfl (RdPost.mk (l := []) hres (World.ownsRow_nil _ _ _ _) hb1)
    simp [results, Tryz.results91, go_sem]
  | true =>
    have K := fun w => l6Tail_yes s w hs hok
    have HS0 : Hid (Stand s [] ⟨#[]⟩ (s.extract 0 (fromN (bl s)))) := stand_start s hok
    have hsz0 : (s.extract 0 (fromN (bl s))).size ≤ s.size := by rw [ByteArray.size_extract]; omega
    clear hok
    generalize s.extract 0 (fromN (bl s)) = B0 at *
    generalize many (bl s) = m at *
    generalize plcs s m = PZ at *
    go_enter Tryz.func91, Tryz.ntmps91
    go_wp2_with fail
    refine (K _).mono ?_
    rintro e w1 ⟨pv, rfl, _, hb1⟩
    clear K
    go_wp2
    go_loopw [4, 7, 8] (fun bv ov kv wr => ∃ (acc : List It) (key body : ByteArray), bv = .string body ∧ kv = .string key ∧ wr.ownsRow w.heap.size 33 4 ov acc.length (flat4 acc) ∧ acc.length ≤ 41 ∧ key.size + body.size ≤ s.size ∧ (∀ i (h : i < acc.length), acc[i].k.size ≤ 1048576 ∧ acc[i].v.size ≤ 1048576) ∧ Stand s acc key body ∧ Below w.heap.size w wr) (fun bv _ _ _ => strLen bv)
    case atStart => exact ⟨[], ⟨#[]⟩, B0, rfl, rfl, World.ownsRow_nil _ _ _ _, by simp, by show 0 + B0.size ≤ s.size; omega, by simp, HS0.out, hb1⟩
    case round =>
      clear HS0 hsz0 hb1
      obtain ⟨acc, key, body, rfl, rfl, hown, hal, hsz, hits, hst, hb⟩ := hrel
      have HST : Hid (Stand s acc key body) := hst
      clear hst
      have hz := hb.size
      by_cases hb0 : body.size = 0
      · obtain rfl := empty_of_size hb0
        have hl0 : (0 : Int) < (⟨#[]⟩ : ByteArray).size ↔ False := by simp [ByteArray.size]
        clear hb0
        by_cases h40 : acc.length ≤ 40
        · skip
          have HRE : Hid (RdRes (bl s) (if okBlk acc && decide (tx (blkL acc) = s) then acc else []) (okBlk acc && decide (tx (blkL acc) = s))) := stand_end HST.out (.inl rfl)
          have HOB : Hid (okBlk acc = (goodR acc && decide (acc.length ≤ 40))) := rfl
          have hir := IR_of_owns hown rfl
          obtain ⟨av, cap, rfl⟩ : ∃ a c, u7 = .slice a acc.length c := by obtain ⟨a, c, h, _⟩ := hir; exact ⟨a, c, h⟩
          have G := fun w h => specRun_any (.slice av acc.length cap) acc w h (by omega) hits
          clear HST hits hi hz0 hzs hzb
          cases hg : goodR acc with
          | false =>
            rw [hg] at HOB G
            rw [HOB.out] at HRE
            generalize tx (blkL acc) = T at *
            clear HOB hg hown
            replace HRE : Hid (RdRes (bl s) [] false) := HRE.out
            go_wp2_with fail
            refine (G _ hir).mono ?_
            rintro e w5 ⟨rfl, hb5⟩
            have hB5 := below_then hb hb5
            clear G hir hb hb5
            go_wp2
            refine bodyPost_ret (v := .tuple #[.slice none 0 0, .bool false]) ?_ rfl (RdPost.mk (l := []) HRE.out (World.ownsRow_nil _ _ _ _) hB5)
            simp [results, Tryz.results91, go_sem]
          | true =>
            have KB := fun w h => l6Block_any (.slice av acc.length cap) acc w h h40 hg
            rw [hg] at HOB G
            rw [HOB.out, decide_eq_true h40] at HRE
            clear HOB hg
            by_cases hT : tx (blkL acc) = s
            · rw [decide_eq_true hT] at HRE
              rw [hT] at KB
              replace HRE : Hid (RdRes (bl s) acc true) := HRE.out
              clear hT
              go_wp2_with fail
              refine (G _ hir).mono ?_
              rintro e w5 ⟨rfl, hb5⟩
              have hB5 := below_then hb hb5
              have hir5 := hir.below hb5
              have hown5 := owns_below hown hb5
              clear G hir hb hb5 hown
              go_wp2_with fail
              refine (KB _ hir5).mono ?_
              rintro e w6 ⟨rfl, hb6⟩
              have hB6 := below_then hB5 hb6
              have hown6 := owns_below hown5 hb6
              clear KB hir5 hB5 hb6 hown5
              go_wp2
              refine bodyPost_ret (v := .tuple #[.slice av acc.length cap, .bool true]) ?_ rfl (RdPost.mk HRE.out hown6 hB6)
              simp [results, Tryz.results91, go_sem]
            · rw [decide_eq_false hT] at HRE
              replace HRE : Hid (RdRes (bl s) [] false) := HRE.out
              have hT2 : ((tx (blkL acc)).toList == s.toList) = false := by
                rw [Bool.eq_false_iff]
                intro h
                apply hT
                have := eq_of_beq h
                rw [ByteArray.toList_eq, ByteArray.toList_eq] at this
                exact bl_inj this
              clear hT hown
              generalize tx (blkL acc) = T at *
              go_wp2_with fail
              refine (G _ hir).mono ?_
              rintro e w5 ⟨rfl, hb5⟩
              have hB5 := below_then hb hb5
              have hir5 := hir.below hb5
              clear G hir hb hb5
              go_wp2_with fail
              refine (KB _ hir5).mono ?_
              rintro e w6 ⟨rfl, hb6⟩
              have hB6 := below_then hB5 hb6
              clear KB hir5 hB5 hb6
              go_wp2
              refine bodyPost_ret (v := .tuple #[.slice none 0 0, .bool false]) ?_ rfl (RdPost.mk (l := []) HRE.out (World.ownsRow_nil _ _ _ _) hB6)
              simp [results, Tryz.results91, go_sem]
        · skip
          have HRE : Hid (RdRes (bl s) (if okBlk acc && decide (tx (blkL acc) = s) then acc else []) (okBlk acc && decide (tx (blkL acc) = s))) := stand_end HST.out (.inl rfl)
          have HOB : Hid (okBlk acc = (goodR acc && decide (acc.length ≤ 40))) := rfl
          have hir := IR_of_owns hown rfl
          obtain ⟨av, cap, rfl⟩ : ∃ a c, u7 = .slice a acc.length c := by obtain ⟨a, c, h, _⟩ := hir; exact ⟨a, c, h⟩
          have G := fun w h => specRun_any (.slice av acc.length cap) acc w h (by omega) hits
          clear HST hits hi hz0 hzs hzb
          cases hg : goodR acc with
          | false =>
            rw [hg] at HOB G
            rw [HOB.out] at HRE
            generalize tx (blkL acc) = T at *
            clear HOB hg hown
            replace HRE : Hid (RdRes (bl s) [] false) := HRE.out
            go_wp2_with fail
            refine (G _ hir).mono ?_
            rintro e w5 ⟨rfl, hb5⟩
            have hB5 := below_then hb hb5
            clear G hir hb hb5
            go_wp2
            refine bodyPost_ret (v := .tuple #[.slice none 0 0, .bool false]) ?_ rfl (RdPost.mk (l := []) HRE.out (World.ownsRow_nil _ _ _ _) hB5)
            simp [results, Tryz.results91, go_sem]
          | true =>
            rw [hg] at HOB G
            rw [HOB.out, decide_eq_false (show ¬ acc.length ≤ 40 from by omega)] at HRE
            generalize tx (blkL acc) = T at *
            clear HOB hg hown
            replace HRE : Hid (RdRes (bl s) [] false) := HRE.out
            go_wp2_with fail
            refine (G _ hir).mono ?_
            rintro e w5 ⟨rfl, hb5⟩
            have hB5 := below_then hb hb5
            clear G hir hb hb5
            go_wp2
            refine bodyPost_ret (v := .tuple #[.slice none 0 0, .bool false]) ?_ rfl (RdPost.mk (l := []) HRE.out (World.ownsRow_nil _ _ _ _) hB5)
            simp [results, Tryz.results91, go_sem]
      · have hbp : 0 < body.size := by omega
        by_cases h40 : acc.length ≤ 40
        · have KI := fun w => l6Item_any body key w (by omega) (by omega)
          have hN0 : Hid (rdSok body key = false → rdSn body key = 0) := fun h => by unfold rdSn; rw [if_neg (by rw [h]; simp)]
          have hN1 : Hid (rdSok body key = true → rdSn body key = rdN (bl body) ∧ rdSi body key = rdIt (bl body) (bl key)) := fun h => by unfold rdSn rdSi; rw [if_pos h, if_pos h]; exact ⟨rfl, rfl⟩
          obtain ⟨av, cap, rfl⟩ : ∃ a c, u7 = .slice a acc.length c := by obtain ⟨a, c, h, _⟩ := IR_of_owns hown rfl; exact ⟨a, c, h⟩
          cases hsk : rdSok body key with
          | false =>
            have hres : Hid (RdRes (bl s) [] false) := stand_stop HST.out hb0 hsk
            have hn := hN0.out hsk
            rw [hn, show ((0 : Nat) : Int) = 0 from rfl] at KI
            clear hN0 hN1 hn HST hits hown hsk hi hz0 hzs hzb
            generalize rdSi body key = y at *
            obtain ⟨yk, yn, yd, yv⟩ := y
            dsimp only at KI
            go_wp2_with fail
            refine (KI _).mono ?_
            rintro e w2 ⟨rfl, hb2⟩
            have hB2 := (below_then hb hb2).alloc (below_then hb hb2).size (.cells #[.string yk, .int .i64 yn, .int .i64 yd, .string yv] 33)
            clear KI hb2 hb
            go_wp2
            refine bodyPost_ret (v := .tuple #[.slice none 0 0, .bool false]) ?_ rfl (RdPost.mk (l := []) hres.out (World.ownsRow_nil _ _ _ _) hB2)
            simp [results, Tryz.results91, go_sem]
          | true =>
            obtain ⟨hn, hx⟩ := hN1.out hsk
            rw [hn, hx] at KI
            have hok : rdOk (bl body) (bl key) = true := by
              unfold rdSok at hsk
              rw [Bool.and_eq_true, Bool.and_eq_true] at hsk
              exact hsk.1.1
            have hss := step_size hok
            have hNp := rdN_pos hok
            have hxs := (rdIt_size hok).2
            have HST2 : Hid (Stand s (acc ++ [rdIt (bl body) (bl key)]) (rdIt (bl body) (bl key)).k (body.extract (rdN (bl body)) body.size)) := stand_step HST.out hb0
            rw [List.length_drop, bl_len, bl_len, bl_len] at hss
            rw [bl_len] at hNp hxs
            have hsz2 : (rdIt (bl body) (bl key)).k.size + (body.extract (rdN (bl body)) body.size).size ≤ s.size := by rw [ByteArray.size_extract]; omega
            have hms : (body.extract (rdN (bl body)) body.size).size < body.size := by rw [ByteArray.size_extract]; omega
            have hits2 : ∀ i (h : i < (acc ++ [rdIt (bl body) (bl key)]).length), (acc ++ [rdIt (bl body) (bl key)])[i].k.size ≤ 1048576 ∧ (acc ++ [rdIt (bl body) (bl key)])[i].v.size ≤ 1048576 := by
              intro i h
              by_cases hi2 : i < acc.length
              · rw [List.getElem_append_left hi2]; exact hits i hi2
              · have : i = acc.length := by rw [List.length_append, List.length_singleton] at h; omega
                subst this
                rw [List.getElem_append_right (Nat.le_refl _)]
                simp only [Nat.sub_self, List.getElem_cons_zero]
                omega
            have hN1' : rdN (bl body) ≤ body.size := by omega
            have hNz : ((rdN (bl body) : Int) == 0) = false := by simp; omega
            clear hN0 hN1 hn hx HST hits hsk hok hss hNp hxs hb0
            generalize rdIt (bl body) (bl key) = x at *
            generalize rdN (bl body) = N at *
            obtain ⟨xk, xn, xd, xv⟩ := x
            dsimp only at KI hsz2 HST2 hits2
            go_wp2_with fail
            refine (KI _).mono ?_
            rintro e w2 ⟨rfl, hb2⟩
            have hB2 := below_then hb hb2
            have hown2 := owns_below (owns_below hown hb2) (below_alloc w2 (.cells #[.string xk, .int .i64 xn, .int .i64 xd, .string xv] 33))
            have hzw : w.heap.size ≤ w2.heap.size := hB2.size
            have X2 := (Box.new w2 #[.string xk, .int .i64 xn, .int .i64 xd, .string xv] 33).alloc (.cells #[.string xk, .int .i64 xn, .int .i64 xd, .string xv] 33)
            have hlt7 := owns_below_lt (owns_below hown hb2)
            have hcn := cells_new4 (w2.alloc (.cells #[.string xk, .int .i64 xn, .int .i64 xd, .string xv] 33)) ⟨xk, xn, xd, xv⟩
            simp only [World.size_alloc] at hcn
            clear KI hown hb hb2
            have hnn : ∀ b, some b = Value.ownBlock (.slice av acc.length cap) → b < w2.heap.size := fun b h => hlt7 b h.symm
            go_wp2_with (at_builtin; refine wpList_append_own _ rfl _ _ 23 rfl w.heap.size 33 i0 (.agg #[.string ⟨#[]⟩, .int .i64 0, .int .i64 0, .string ⟨#[]⟩]) 4 48 Tryz.underlying23 hi hz0 hzs hzb rfl (by decide) _ acc.length (flat4 acc) rfl (owns_below hown2 (below_alloc _ _)) ⟨w2.heap.size + 1, 0, none⟩ 1 1 (flat4 [⟨xk, xn, xd, xv⟩]) rfl rfl hcn (one4 _) (by unfold maxLen; omega) (by omega) (by simp; omega) ?_; intro v' w3 hown3 hgrow3 _; have X3 := box_grown X2 hgrow3 (fun h => by have := hnn _ h; omega); obtain ⟨_, y0, y1, y2, y3⟩ := Box.c4 X3)
            go_roundw
            case rel =>
              refine ⟨acc ++ [⟨xk, xn, xd, xv⟩], xk, body.extract N body.size, rfl, rfl, ?_, by simp; omega, hsz2, hits2, HST2.out, ?_⟩
              · rw [List.length_append, flat4_append]; exact hown3
              · exact ((hB2.alloc hzw _).alloc (by simp; omega) _).grown hgrow3 (by simp; omega) (owns_ge hown2)
            case measure => exact hms
        · have hend : 40 < acc.length := by omega
          have HRE : Hid (RdRes (bl s) (if okBlk acc && decide (tx (blkL acc) = s) then acc else []) (okBlk acc && decide (tx (blkL acc) = s))) := stand_end HST.out (.inr hend)
          have HOB : Hid (okBlk acc = (goodR acc && decide (acc.length ≤ 40))) := rfl
          have hir := IR_of_owns hown rfl
          obtain ⟨av, cap, rfl⟩ : ∃ a c, u7 = .slice a acc.length c := by obtain ⟨a, c, h, _⟩ := hir; exact ⟨a, c, h⟩
          have G := fun w h => specRun_any (.slice av acc.length cap) acc w h (by omega) hits
          clear HST hits hi hz0 hzs hzb
          cases hg : goodR acc with
          | false =>
            rw [hg] at HOB G
            rw [HOB.out] at HRE
            generalize tx (blkL acc) = T at *
            clear HOB hg hown
            replace HRE : Hid (RdRes (bl s) [] false) := HRE.out
            go_wp2_with fail
            refine (G _ hir).mono ?_
            rintro e w5 ⟨rfl, hb5⟩
            have hB5 := below_then hb hb5
            clear G hir hb hb5
            go_wp2
            refine bodyPost_ret (v := .tuple #[.slice none 0 0, .bool false]) ?_ rfl (RdPost.mk (l := []) HRE.out (World.ownsRow_nil _ _ _ _) hB5)
            simp [results, Tryz.results91, go_sem]
          | true =>
            rw [hg] at HOB G
            rw [HOB.out, decide_eq_false (show ¬ acc.length ≤ 40 from by omega)] at HRE
            generalize tx (blkL acc) = T at *
            clear HOB hg hown
            replace HRE : Hid (RdRes (bl s) [] false) := HRE.out
            go_wp2_with fail
            refine (G _ hir).mono ?_
            rintro e w5 ⟨rfl, hb5⟩
            have hB5 := below_then hb hb5
            clear G hir hb hb5
            go_wp2
            refine bodyPost_ret (v := .tuple #[.slice none 0 0, .bool false]) ?_ rfl (RdPost.mk (l := []) HRE.out (World.ownsRow_nil _ _ _ _) hB5)
            simp [results, Tryz.results91, go_sem]

end Go.Proofs.YtfdaffnkgpdhhaaGreat

