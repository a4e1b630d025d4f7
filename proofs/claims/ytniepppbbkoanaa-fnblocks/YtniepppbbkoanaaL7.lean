/-
  The tail of a block: spec.l6Tail.
-/
import Derived.Test.YtniepppbbkoanaaR4
import Derived.Test.YtniepppbbkoanaaR2
import Derived.Test.YtniepppbbkoanaaK2
import Derived.Deep.RegionHeld3
namespace Go.Proofs.Ytniepppbbkoanaa
open Go.RowKit
set_option linter.unusedVariables false
set_option maxRecDepth 100000

/-- Whether the sum at the end is that of what is ahead. -/
def sumOk (s : ByteArray) : Bool := decide (tx (wordL (csum (bl (s.extract 0 (s.size - 4))))) = s.extract (s.size - 4) s.size)
def tlOk (s : ByteArray) : Bool := parts (bl s) && sumOk s
/-- The first k places. -/
def plcs (s : ByteArray) (k : Nat) : List Int := (List.range k).map fun j => ((lo2 (bl s) (fromN (bl s) + 2 * j) : Nat) : Int)
theorem plcs_succ (s : ByteArray) (k : Nat) : plcs s (k + 1) = plcs s k ++ [((lo2 (bl s) (fromN (bl s) + 2 * k) : Nat) : Int)] := by simp [plcs, List.range_succ]
theorem plcs_len (s : ByteArray) (k : Nat) : (plcs s k).length = k := by simp [plcs]
theorem lo2_bits (s : ByteArray) (i : Nat) (h : i + 1 < s.size) : bits BinOp.or IntKind.i64 (s[i].toNat : Int) ((s[i + 1].toNat : Int) * 256) = ((lo2 (bl s) i : Nat) : Int) := by
  have c0 := s[i].toNat_lt
  have c1 := s[i + 1].toNat_lt
  have h1 := (bits_nat .i64 62 (by decide) (fun n h1 h2 => by rw [IntKind.wrap_i64]; omega) s[i].toNat (s[i + 1].toNat * 256) (by omega) (by omega)).2
  rw [show ((s[i + 1].toNat * 256 : Nat) : Int) = (s[i + 1].toNat : Int) * 256 from by omega] at h1
  rw [h1, lo2_at s i h]
  rw [Nat.or_comm, nat_join 8 _ s[i].toNat (by omega) (by omega)]
  omega


def tlA (s : ByteArray) : ByteArray := if tlOk s then s.extract 0 (fromN (bl s)) else ⟨#[]⟩
def tlL (s : ByteArray) : List Int := if tlOk s then plcs s (many (bl s)) else []
theorem Try.info3 : (Try.prog.info? 3).map (fun i => (i.zero, i.size, i.bytes)) = some (some (.int .i64 0), 1, 8) := by kernel_rfl
theorem one_new (W : World) (x : Int) : ∀ j u, [Value.int .i64 x][j]? = some u → (W.alloc (.cells #[.int .i64 x] 3)).cell? ((⟨W.heap.size, 0, none⟩ : Addr).add j) = some u := by
  intro j u hj
  have hb := Box.new W #[.int .i64 x] 3
  rw [show (⟨W.heap.size, 0, none⟩ : Addr).add j = ⟨W.heap.size, j, none⟩ from by simp [Addr.add]; omega]
  exact hb.2.1 j u hj

set_option maxHeartbeats 4000000 in
theorem l6Tail_yes (s : ByteArray) (w : World) (hs : s.size ≤ 1048576) (hok : tlOk s = true) :
    Calls Try.prog 66 #[.string s] w fun e w' => ∃ v, e = .returned (.tuple #[.string (s.extract 0 (fromN (bl s))), v, .bool true]) ∧ w'.ownsRow w.heap.size 3 1 v (many (bl s)) ((plcs s (many (bl s))).map (.int .i64)) ∧ Below w.heap.size w w' := by
  obtain ⟨i0, hi, hz0, hzs, hzb⟩ := info_parts Try.info3
  unfold tlOk parts sumOk at hok
  simp only [Bool.and_eq_true, decide_eq_true_eq, bl_len] at hok
  obtain ⟨⟨h6, hm2⟩, hsum⟩ := hok
  obtain ⟨e, he⟩ : ∃ e, s.size = e + 6 := ⟨s.size - 6, by omega⟩
  obtain ⟨d, hd⟩ : ∃ d, d = e + 2 := ⟨_, rfl⟩
  have hd4 : s.size - 4 = d := by omega
  rw [hd4] at hsum
  have hmn : many (bl s) = lo2 (bl s) e := by unfold many; rw [bl_len, he, Nat.add_sub_cancel]
  have hfn : fromN (bl s) = e - 2 * many (bl s) := by unfold fromN; rw [bl_len, he, Nat.add_sub_cancel]
  have hm3 : 2 * many (bl s) ≤ e := by omega
  have PS := plcs_succ s
  have P0 : plcs s 0 = [] := rfl
  have PL := plcs_len s
  have HLO : Hid (∀ k, k < many (bl s) → ∀ (x : fromN (bl s) + 2 * k < s.size) (y : fromN (bl s) + 2 * k + 1 < s.size), bits BinOp.or IntKind.i64 (s[fromN (bl s) + 2 * k].toNat : Int) ((s[fromN (bl s) + 2 * k + 1].toNat : Int) * 256) = ((lo2 (bl s) (fromN (bl s) + 2 * k) : Nat) : Int)) := fun k hk x y => lo2_bits s _ y
  have E1 : (s.size : Int) - 6 = (e : Int) := by omega
  have E2 : (e : Int) + 2 = (d : Int) := by omega
  have hn0 : decide ((e : Int) < 0) = false := decide_eq_false (by omega)
  have heA : e + 6 ≤ s.size := by omega
  have heB : s.size ≤ e + 6 := by omega
  have hSz : (s.extract 0 d).size ≤ 1048576 := by rw [ByteArray.size_extract]; omega
  have KS := fun w => l2Sum_any (s.extract 0 d) w hSz
  have KW := fun w => l2Word_any (csum (bl (s.extract 0 d))) w (csum_lt _)
  rw [show csum (s.extract 0 d).data.toList = csum (bl (s.extract 0 d)) from rfl] at KS
  rw [show (⟨(wordL (csum (bl (s.extract 0 d)))).toArray⟩ : ByteArray) = tx (wordL (csum (bl (s.extract 0 d)))) from rfl, hsum] at KW
  generalize csum (bl (s.extract 0 d)) = cs at *
  have i1 : d ≤ s.size := by omega
  have hne : Nonempty (WC w.heap.size w) := ⟨⟨_, Below.refl _ _⟩⟩
  obtain ⟨f, hf⟩ : ∃ f, f = e + 1 := ⟨_, rfl⟩
  have j0 : e < s.size := by omega
  have j1 : f < s.size := by omega
  have c0 := s[e].toNat_lt
  have c1 := s[f].toNat_lt
  have E3 : (e : Int) + 1 = (f : Int) := by omega
  have V3 : IntKind.i64.wrap (f : Int) = (f : Int) := by rw [IntKind.wrap_i64]; omega
  have V0 : IntKind.i64.wrap (s[e].toNat : Int) = (s[e].toNat : Int) := by rw [IntKind.wrap_i64]; omega
  have V1 : IntKind.i64.wrap (s[f].toNat : Int) = (s[f].toNat : Int) := by rw [IntKind.wrap_i64]; omega
  have V2 : IntKind.i64.wrap ((s[f].toNat : Int) * 256) = (s[f].toNat : Int) * 256 := by rw [IntKind.wrap_i64]; omega
  have V4 : bits BinOp.or IntKind.i64 (s[e].toNat : Int) ((s[f].toNat : Int) * 256) = ((many (bl s) : Nat) : Int) := by subst hf; rw [hmn]; exact lo2_bits s e j1
  have hml := lo2_lt (bl s) e
  rw [← hmn] at hml
  clear hf hmn hd hd4 he hsum h6 hm2
  have HPS : Hid (∀ k, plcs s (k + 1) = plcs s k ++ [((lo2 (bl s) (fromN (bl s) + 2 * k) : Nat) : Int)]) := PS
  clear PS
  obtain ⟨fr, hfr⟩ : ∃ fr, fr = fromN (bl s) := ⟨_, rfl⟩
  rw [← hfr] at HPS HLO hfn ⊢
  clear hfr
  generalize hmm : many (bl s) = m at *
  clear hmm
  have F1 : (e : Int) - 2 * (m : Int) = (fr : Int) := by omega
  have hfre : fr ≤ e := by omega
  have hfrs : fr ≤ s.size := by omega
  have hfm : fr + 2 * m ≤ e := by omega
  have hfm2 : e ≤ fr + 2 * m := by omega
  have nF : ¬ (fr : Int) < 0 := by omega
  clear hfn hm3
  generalize plcs s = PZ at *
  go_enter Try.func66, Try.ntmps66
  go_wp2_with fail
  refine wp_region_calm (B := w.heap.size) (W := w) (by kernel_rfl) (by kernel_rfl) (Below.refl _ _) ?_
  repeat (go_big_quiet_step (first | (go_at_call 72; with_reducible exact calm_of_below (Nat.le_refl _) (KS _)) | (go_at_call 71; with_reducible exact calm_of_below (Nat.le_refl _) (KW _))))
  refine wpQuiet_nil ?_
  intro _ hw'
  obtain ⟨x, hx⟩ := hw'
  subst hx
  have hB1 := x.ok
  clear KS KW hne
  generalize x.w = w1 at *
  clear x
  go_wp2_with fail
  go_quiet (fail)
  clear V0 V1 V2 V3 V4 c0 c1 E3 hn0 E2 hSz
  have hB2 := below_drewN hB1 nq
  clear hB1
  go_wp2
  go_loopw [8, 9] (fun v i wr => ∃ k : Nat, k ≤ m ∧ i = .int .i64 ((fr + 2 * k : Nat) : Int) ∧ wr.ownsRow w.heap.size 3 1 v k ((PZ k).map (.int .i64)) ∧ Below w.heap.size w wr) (fun _ i _ => e - (intOf i).toNat)
  case atStart => exact ⟨0, Nat.zero_le _, by simp, by rw [P0]; exact World.ownsRow_nil _ _ _ _, hB2⟩
  case round =>
    clear hB2
    obtain ⟨k, hk, rfl, hown, hb⟩ := hrel
    obtain ⟨p, hp⟩ : ∃ p, p = fr + 2 * k := ⟨_, rfl⟩
    rw [← hp]
    by_cases hlt : k < m
    · obtain ⟨q, hq⟩ : ∃ q, q = p + 1 := ⟨_, rfl⟩
      have j0 : p < s.size := by omega
      have j1 : q < s.size := by omega
      have c0 := s[p].toNat_lt
      have c1 := s[q].toNat_lt
      have E3 : (p : Int) + 1 = (q : Int) := by omega
      have V3 : IntKind.i64.wrap (q : Int) = (q : Int) := by rw [IntKind.wrap_i64]; omega
      have V0 : IntKind.i64.wrap (s[p].toNat : Int) = (s[p].toNat : Int) := by rw [IntKind.wrap_i64]; omega
      have V1 : IntKind.i64.wrap (s[q].toNat : Int) = (s[q].toNat : Int) := by rw [IntKind.wrap_i64]; omega
      have V2 : IntKind.i64.wrap ((s[q].toNat : Int) * 256) = (s[q].toNat : Int) * 256 := by rw [IntKind.wrap_i64]; omega
      have V4 : bits BinOp.or IntKind.i64 (s[p].toNat : Int) ((s[q].toNat : Int) * 256) = ((lo2 (bl s) p : Nat) : Int) := by subst hq hp; exact HLO.out k hlt (by omega) (by omega)
      have HP : Hid (PZ (k + 1) = PZ k ++ [((lo2 (bl s) p : Nat) : Int)]) := by rw [hp]; exact HPS.out k
      generalize lo2 (bl s) p = y at *
      have hpe : (p : Int) < (e : Int) := by omega
      have hp2 : p + 2 ≤ s.size := by omega
      have hpk : p = fr + 2 * k := hp
      have HPK : Hid (p = fr + 2 * k) := hpk
      clear hq hp hpk HLO HPS
      have hz := hb.size
      go_wp2_with fail
      have hD : Below wr.heap.size wr wr.drew := (Below.refl _ _).drew
      replace hown := owns_below hown hD
      replace hb := below_then hb hD
      clear hD
      refine wp_region_held_drew (S := fun _ => True) (by kernel_rfl) trivial (fun hHeld => ?_)
      generalize wr.drew = v0 at *
      refine wpAnyH_take (i := 0) (oi := { dst := some 51, op := Op.move (Operand.tmp 8), type := 29, pos := "l6_block.go:60", after := #[], guard := none }) (v := u8) rfl (by kernel_rfl) (by kernel_rfl) (by kernel_rfl) (fun _ _ _ h => h) (Or.inl ⟨by rfl, ?_⟩) (by assumption) ?_
      · intro wx hSw
        clear hSw hHeld; go_simp; try omega
      simp only [Act.put, List.setIfInBounds_toArray, List.set_cons_zero, List.set_cons_succ]
      refine wpAnyH_take (i := 1) (oi := { dst := some 52, op := Op.move (Operand.tmp 0), type := 9, pos := "l6_block.go:60", after := #[], guard := none }) (v := .string s) rfl (by kernel_rfl) (by kernel_rfl) (by kernel_rfl) (fun _ _ _ h => h) (Or.inl ⟨by rfl, ?_⟩) (by assumption) ?_
      · intro wx hSw
        clear hSw hHeld; go_simp; try omega
      simp only [Act.put, List.setIfInBounds_toArray, List.set_cons_zero, List.set_cons_succ]
      refine wpAnyH_take (i := 2) (oi := { dst := some 53, op := Op.move (Operand.tmp 9), type := 3, pos := "l6_block.go:60", after := #[], guard := none }) (v := .int .i64 (p : Int)) rfl (by kernel_rfl) (by kernel_rfl) (by kernel_rfl) (fun _ _ _ h => h) (Or.inl ⟨by rfl, ?_⟩) (by assumption) ?_
      · intro wx hSw
        clear hSw hHeld; go_simp; try omega
      simp only [Act.put, List.setIfInBounds_toArray, List.set_cons_zero, List.set_cons_succ]
      refine wpAnyH_take (i := 3) (oi := { dst := some 54, op := Op.index 9 (Operand.tmp 52) (Operand.tmp 53), type := 5, pos := "l6_block.go:60", after := #[{ on := 1, ground := Ground.data }, { on := 2, ground := Ground.data }], guard := none }) (v := .int .u8 (s[p].toNat : Int)) rfl (by kernel_rfl) (by kernel_rfl) (by kernel_rfl) (fun _ _ _ h => h) (Or.inl ⟨by rfl, ?_⟩) (by assumption) ?_
      · intro wx hSw
        clear hSw hHeld; go_simp; try omega
      simp only [Act.put, List.setIfInBounds_toArray, List.set_cons_zero, List.set_cons_succ]
      refine wpAnyH_take (i := 4) (oi := { dst := some 55, op := Op.convert 5 3 (Operand.tmp 54), type := 3, pos := "l6_block.go:60", after := #[{ on := 3, ground := Ground.data }], guard := none }) (v := .int .i64 (s[p].toNat : Int)) rfl (by kernel_rfl) (by kernel_rfl) (by kernel_rfl) (fun _ _ _ h => h) (Or.inl ⟨by rfl, ?_⟩) (by assumption) ?_
      · intro wx hSw
        clear hSw hHeld; go_simp; try omega
      simp only [Act.put, List.setIfInBounds_toArray, List.set_cons_zero, List.set_cons_succ]
      refine wpAnyH_take (i := 5) (oi := { dst := some 56, op := Op.move (Operand.tmp 0), type := 9, pos := "l6_block.go:60", after := #[], guard := none }) (v := .string s) rfl (by kernel_rfl) (by kernel_rfl) (by kernel_rfl) (fun _ _ _ h => h) (Or.inl ⟨by rfl, ?_⟩) (by assumption) ?_
      · intro wx hSw
        clear hSw hHeld; go_simp; try omega
      simp only [Act.put, List.setIfInBounds_toArray, List.set_cons_zero, List.set_cons_succ]
      refine wpAnyH_take (i := 6) (oi := { dst := some 57, op := Op.move (Operand.tmp 9), type := 3, pos := "l6_block.go:60", after := #[], guard := none }) (v := .int .i64 (p : Int)) rfl (by kernel_rfl) (by kernel_rfl) (by kernel_rfl) (fun _ _ _ h => h) (Or.inl ⟨by rfl, ?_⟩) (by assumption) ?_
      · intro wx hSw
        clear hSw hHeld; go_simp; try omega
      simp only [Act.put, List.setIfInBounds_toArray, List.set_cons_zero, List.set_cons_succ]
      refine wpAnyH_take (i := 7) (oi := { dst := some 58, op := Op.binOp BinOp.add 3 (Operand.tmp 57) (Operand.const (Value.int IntKind.i64 1)) 3, type := 3, pos := "l6_block.go:60", after := #[{ on := 6, ground := Ground.data }], guard := none }) (v := .int .i64 (q : Int)) rfl (by kernel_rfl) (by kernel_rfl) (by kernel_rfl) (fun _ _ _ h => h) (Or.inl ⟨by rfl, ?_⟩) (by assumption) ?_
      · intro wx hSw
        clear hSw hHeld; go_simp; try omega
      simp only [Act.put, List.setIfInBounds_toArray, List.set_cons_zero, List.set_cons_succ]
      refine wpAnyH_take (i := 8) (oi := { dst := some 59, op := Op.index 9 (Operand.tmp 56) (Operand.tmp 58), type := 5, pos := "l6_block.go:60", after := #[{ on := 5, ground := Ground.data }, { on := 7, ground := Ground.data }], guard := none }) (v := .int .u8 (s[q].toNat : Int)) rfl (by kernel_rfl) (by kernel_rfl) (by kernel_rfl) (fun _ _ _ h => h) (Or.inl ⟨by rfl, ?_⟩) (by assumption) ?_
      · intro wx hSw
        clear hSw hHeld; go_simp; try omega
      simp only [Act.put, List.setIfInBounds_toArray, List.set_cons_zero, List.set_cons_succ]
      refine wpAnyH_take (i := 9) (oi := { dst := some 60, op := Op.convert 5 3 (Operand.tmp 59), type := 3, pos := "l6_block.go:60", after := #[{ on := 8, ground := Ground.data }], guard := none }) (v := .int .i64 (s[q].toNat : Int)) rfl (by kernel_rfl) (by kernel_rfl) (by kernel_rfl) (fun _ _ _ h => h) (Or.inl ⟨by rfl, ?_⟩) (by assumption) ?_
      · intro wx hSw
        clear hSw hHeld; go_simp; try omega
      simp only [Act.put, List.setIfInBounds_toArray, List.set_cons_zero, List.set_cons_succ]
      refine wpAnyH_take (i := 10) (oi := { dst := some 61, op := Op.binOp BinOp.shl 3 (Operand.tmp 60) (Operand.const (Value.int IntKind.u64 8)) 87, type := 3, pos := "l6_block.go:60", after := #[{ on := 9, ground := Ground.data }], guard := none }) (v := .int .i64 ((s[q].toNat : Int) * 256)) rfl (by kernel_rfl) (by kernel_rfl) (by kernel_rfl) (fun _ _ _ h => h) (Or.inl ⟨by rfl, ?_⟩) (by assumption) ?_
      · intro wx hSw
        clear hSw hHeld; go_simp; try omega
      simp only [Act.put, List.setIfInBounds_toArray, List.set_cons_zero, List.set_cons_succ]
      refine wpAnyH_take (i := 11) (oi := { dst := some 62, op := Op.binOp BinOp.or 3 (Operand.tmp 55) (Operand.tmp 61) 3, type := 3, pos := "l6_block.go:60", after := #[{ on := 4, ground := Ground.data }, { on := 10, ground := Ground.data }], guard := none }) (v := .int .i64 (y : Int)) rfl (by kernel_rfl) (by kernel_rfl) (by kernel_rfl) (fun _ _ _ h => h) (Or.inl ⟨by rfl, ?_⟩) (by assumption) ?_
      · intro wx hSw
        clear hSw hHeld; go_simp; try omega
      simp only [Act.put, List.setIfInBounds_toArray, List.set_cons_zero, List.set_cons_succ]
      refine wpAnyH_ready (rs := [12]) (by kernel_rfl) (by simp) ?_
      refine AllReadyH.cons (o := { dst := some 63, op := Op.buildSlice 29 1 #[(0, Operand.tmp 62)], type := 29, pos := "l6_block.go:60", after := #[{ on := 11, ground := Ground.data }], guard := none }) rfl (fun K hK => ?_) AllReadyH.nil
      go_simp
      refine hK.out _ (v0.alloc (.cells #[.int .i64 (y : Int)] 3)) trivial (fun hHeld => ?_)
      clear hK K
      refine wpAnyH_ready (rs := [13]) (by kernel_rfl) (by simp) ?_
      refine AllReadyH.cons (o := { dst := some 64, op := Op.call { callee := Callee.builtin Builtin.append, args := #[Operand.tmp 51, Operand.tmp 63], argTypes := #[29, 29] }, type := 29, pos := "l6_block.go:60", after := #[{ on := 0, ground := Ground.data }, { on := 12, ground := Ground.data }], guard := none }) rfl (fun K hK => ?_) AllReadyH.nil
      rw [if_pos (by rfl)]
      refine wp_append_own _ _ _ 29 (by rfl) w.heap.size 3 i0 (.int .i64 0) 1 8 Try.underlying29 hi hz0 hzs hzb rfl (by decide) u8 k ((PZ k).map (.int .i64)) (by rfl) (owns_below hown (below_alloc _ _)) ⟨v0.heap.size, 0, none⟩ 1 1 [.int .i64 (y : Int)] (by rfl) rfl (one_new v0 y) (by intro u hu; simp at hu; subst hu; rfl) (by unfold maxLen; omega) (by omega) (by have := hb.size; simp; omega) ?_
      intro v' v2 hown2 hgrow2 _
      refine hK.out _ v2 trivial (fun hHeld => ?_)
      clear hK K
      have hb2 := (hb.alloc hb.size (.cells #[.int .i64 (y : Int)] 3)).grown hgrow2 (by have := hb.size; simp; omega) (owns_ge hown)
      clear hown hgrow2 hb
      simp only [Act.put, List.setIfInBounds_toArray, List.set_cons_zero, List.set_cons_succ]
      refine wpAnyH_take (i := 14) (oi := { dst := some 8, op := Op.assign (Operand.tmp 64), type := 29, pos := "l6_block.go:60", after := #[{ on := 13, ground := Ground.data }, { on := 13, ground := Ground.chain }, { on := 0, ground := Ground.phase }, { on := 1, ground := Ground.phase }, { on := 2, ground := Ground.phase }, { on := 3, ground := Ground.phase }, { on := 4, ground := Ground.phase }, { on := 5, ground := Ground.phase }, { on := 6, ground := Ground.phase }, { on := 7, ground := Ground.phase }, { on := 8, ground := Ground.phase }, { on := 9, ground := Ground.phase }, { on := 10, ground := Ground.phase }, { on := 11, ground := Ground.phase }, { on := 12, ground := Ground.phase }, { on := 13, ground := Ground.phase }], guard := none }) (v := v') rfl (by kernel_rfl) (by kernel_rfl) (by kernel_rfl) (fun _ _ _ h => h) (Or.inl ⟨by rfl, ?_⟩) (by assumption) ?_
      · intro wx hSw
        clear hSw hHeld; go_simp; try omega
      simp only [Act.put, List.setIfInBounds_toArray, List.set_cons_zero, List.set_cons_succ]
      refine wpAnyH_done (by kernel_rfl) ?_ _
      go_wp2
      go_roundw
      case rel =>
        refine ⟨k + 1, by omega, ?_, ?_, hb2⟩
        · rw [HPK.out]; go_num
        · rw [HP.out, List.map_append]; exact hown2
      case measure => simp [intOf]; omega
    · obtain rfl : k = m := by omega
      have hpe : ¬ (p : Int) < (e : Int) := by omega
      clear hp HLO HPS
      go_wp2
      refine bodyPost_ret (v := .tuple #[.string (s.extract 0 fr), u8, .bool true]) ?_ rfl ⟨u8, rfl, hown, hb⟩
      simp [results, Try.results66, go_sem]
end Go.Proofs.Ytniepppbbkoanaa
