/-
  What is wanted of files: goodFiles, l13Files, both WantOf; one wanted, one chunk appended to a row of one's own.
-/
import Derived.Test.YtocaigffikdlhaaWQ
import Derived.Test.YtocaigffikdlhaaS2ToX1
import Derived.Test.YtocaigffikdlhaaG1ToD5
import Derived.Maps.AppendAt
namespace Go.Proofs.Ytocaigffikdlhaa
open Go.RowKit Go.Maps
set_option linter.unusedVariables false
set_option maxRecDepth 100000

/-- One wanted appended to a row of one's own. -/
theorem wpList_append_wt (w : World) {ops : Array Oper} {rest : List Oper} {o : Oper} {a : Act} {Q : Exit → Act → World → Prop} (hgd : o.guard = none) (s y : Operand)
    (ho : o.op = .call { callee := .builtin .append, args := #[s, y], argTypes := #[39, 39] }) (hty : o.type = 39)
    (base : Nat) (v : Value) (n : Nat) (zs : List Wt) (hs : a.eval s = v) (hown : w.ownsRow base 54 2 v n (flat2 zs))
    (b : Nat) (x : Wt) (hx : a.eval y = .slice (some ⟨b, 0, none⟩) 1 1) (hI : Box w b [.int .i64 x.t, .int .u32 x.d]) (hn : n + 1 ≤ 2000000) (hbase : base ≤ w.heap.size)
    (h : ∀ v' w', w'.ownsRow base 54 2 v' (n + 1) (flat2 (zs ++ [x])) → w.grownBy w' v.ownBlock → wpList Try.prog ops Q rest (a.put o.dst v') w') : wpList Try.prog ops Q (o :: rest) a w := by
  obtain ⟨i0, hi, hz0, hzs, hzb⟩ := info_parts Try.info54
  refine wpList_append_own _ hgd s y 39 ho base 54 i0 (.agg #[.int .i64 0, .int .u32 0]) 2 16 Try.underlying39 hi hz0 hzs hzb rfl (by decide) v n (flat2 zs) hs hown ⟨b, 0, none⟩ 1 1 (flat2 [x]) hx rfl ?_ ?_ (by unfold maxLen; omega) (by omega) hbase fun v' w' h1 h2 _ => h v' w' (by rw [flat2_append]; exact h1) h2
  · intro j u hj
    rw [show (⟨b, 0, none⟩ : Addr).add j = ⟨b, j, none⟩ from by simp [Addr.add]; omega]
    exact hI.2.1 j u hj
  · intro u hu
    simp only [flat2, List.mem_cons, List.not_mem_nil, or_false] at hu
    rcases hu with rfl | rfl <;> rfl
/-- One chunk appended to a row of one's own. -/
theorem wpList_append_ck (w : World) {ops : Array Oper} {rest : List Oper} {o : Oper} {a : Act} {Q : Exit → Act → World → Prop} (hgd : o.guard = none) (s y : Operand)
    (ho : o.op = .call { callee := .builtin .append, args := #[s, y], argTypes := #[30, 30] }) (hty : o.type = 30)
    (base : Nat) (v : Value) (n : Nat) (zs : List Ck) (hs : a.eval s = v) (hown : w.ownsRow base 37 4 v n (flat4 zs))
    (b : Nat) (x : Ck) (hx : a.eval y = .slice (some ⟨b, 0, none⟩) 1 1) (hI : Box w b [.int .i64 x.n, .int .i64 x.d, .string x.k, .int .u32 x.v]) (hn : n + 1 ≤ 2000000) (hbase : base ≤ w.heap.size)
    (h : ∀ v' w', w'.ownsRow base 37 4 v' (n + 1) (flat4 (zs ++ [x])) → w.grownBy w' v.ownBlock → wpList Try.prog ops Q rest (a.put o.dst v') w') : wpList Try.prog ops Q (o :: rest) a w := by
  obtain ⟨i0, hi, hz0, hzs, hzb⟩ := info_parts Try.info37
  refine wpList_append_own _ hgd s y 30 ho base 37 i0 (.agg #[.int .i64 0, .int .i64 0, .string ⟨#[]⟩, .int .u32 0]) 4 40 Try.underlying30 hi hz0 hzs hzb rfl (by decide) v n (flat4 zs) hs hown ⟨b, 0, none⟩ 1 1 (flat4 [x]) hx rfl ?_ ?_ (by unfold maxLen; omega) (by omega) hbase fun v' w' h1 h2 _ => h v' w' (by rw [flat4_append]; exact h1) h2
  · intro j u hj
    rw [show (⟨b, 0, none⟩ : Addr).add j = ⟨b, j, none⟩ from by simp [Addr.add]; omega]
    exact hI.2.1 j u hj
  · intro u hu
    simp only [flat4, List.mem_cons, List.not_mem_nil, or_false] at hu
    rcases hu with rfl | rfl | rfl | rfl <;> rfl
/-- Files are as said. -/
def gfB (L : List ByteArray) : Bool := decide (L.length ≤ 12) && L.all fun s => decide (s.size ≤ 4000)
/-- What is wanted of files. -/
def wtL (L : List ByteArray) : List Wt := L.map fun s => ⟨(s.size : Int), ((csum s.data.toList : Nat) : Int)⟩
def wtR (L : List ByteArray) : List Wt := if gfB L then wtL L else []
theorem gfB_iff (L : List ByteArray) : gfB L = true ↔ L.length ≤ 12 ∧ ∀ i (h : i < L.length), L[i].size ≤ 4000 := by
  unfold gfB
  simp only [Bool.and_eq_true, decide_eq_true_eq, List.all_eq_true]
  constructor
  · rintro ⟨h1, h2⟩
    exact ⟨h1, fun i h => h2 _ (List.getElem_mem h)⟩
  · rintro ⟨h1, h2⟩
    refine ⟨h1, fun x hx => ?_⟩
    obtain ⟨i, hi, rfl⟩ := List.getElem_of_mem hx
    exact h2 i hi
theorem gfB_no {L : List ByteArray} (i : Nat) (h : i < L.length) (hb : ¬ L[i].size ≤ 4000) : gfB L = false := by
  rw [Bool.eq_false_iff]
  intro hg
  exact hb (((gfB_iff L).1 hg).2 i h)
theorem gfB_long {L : List ByteArray} (h : ¬ L.length ≤ 12) : gfB L = false := by
  rw [Bool.eq_false_iff]
  intro hg
  exact h ((gfB_iff L).1 hg).1

set_option maxHeartbeats 2000000 in
theorem goodFiles_any (v : Value) (L : List ByteArray) (w : World) (hv : SL w v L) (hn : L.length ≤ 1048576) (hs : ∀ i (h : i < L.length), L[i].size ≤ 1048576) :
    Calls Try.prog 80 #[v] w fun e w' => e = .returned (.bool (gfB L)) ∧ Below w.heap.size w w' := by
  obtain ⟨a, cap, rfl, hc⟩ := hv
  by_cases h12 : L.length ≤ 12
  · go_enter Try.func80, Try.ntmps80
    go_wp2
    go_loopw [10] (fun i wr => ∃ k : Nat, k ≤ L.length ∧ i = .int .i64 k ∧ (∀ j (h : j < L.length), j < k → L[j].size ≤ 4000) ∧ Below w.heap.size w wr) (fun i _ => L.length - (intOf i).toNat)
    case atStart => exact ⟨0, Nat.zero_le _, rfl, fun j h h0 => by omega, Below.refl _ _⟩
    case round =>
      obtain ⟨k, hk, rfl, hok, hb⟩ := hrel
      by_cases hlt : k < L.length
      · obtain ⟨b, off, rfl, hbl, hcell⟩ := hc (by intro e; simp [e] at hlt)
        have hc0 := (hb.cell (p := ⟨b, off + k, none⟩) hbl).trans (hcell k hlt)
        have hz := hb.size
        have hss := hs k hlt
        by_cases hbig : L[k].size ≤ 4000
        · have HN : Hid (∀ j (h : j < L.length), j < k + 1 → L[j].size ≤ 4000) := by
            intro j h hj
            by_cases e : j = k
            · subst e; exact hbig
            · exact hok j h (by omega)
          clear hok hcell hc hs
          generalize L[k] = s at *
          go_wp2
          go_roundw
          case rel => exact ⟨k + 1, by omega, by go_num, HN.out, hb⟩
          case measure => simp [intOf]; omega
        · have HG : Hid (gfB L = false) := gfB_no k hlt hbig
          clear hok hcell hc hs
          generalize L[k] = s at *
          go_wp2
          go_ret
          exact ⟨by rw [HG.out]; rfl, hb⟩
      · have HG : Hid (gfB L = true) := (gfB_iff L).2 ⟨h12, fun i h => hok i h (by omega)⟩
        clear hok hc hs
        go_wp2
        go_ret
        exact ⟨by rw [HG.out]; rfl, hb⟩
  · have HG : Hid (gfB L = false) := gfB_long h12
    clear hc hs
    go_enter Try.func80, Try.ntmps80
    go_wp2
    go_ret
    exact ⟨by rw [HG.out]; rfl, Below.refl _ _⟩

set_option maxHeartbeats 2000000 in
theorem l13Files_any (v : Value) (L : List ByteArray) (w : World) (hv : SL w v L) (hn : L.length ≤ 1048576) (hs : ∀ i (h : i < L.length), L[i].size ≤ 1048576) :
    Calls Try.prog 70 #[v] w fun e w' => e = .returned (.bool (gfB L)) ∧ Below w.heap.size w w' := by
  obtain ⟨a, cap, rfl, hc⟩ := hv
  go_enter Try.func70, Try.ntmps70
  go_wp2
  go_loopw [7] (fun i wr => ∃ k : Nat, k ≤ L.length ∧ i = .int .i64 k ∧ (∀ j (h : j < L.length), j < k → L[j].size ≤ 4000) ∧ Below w.heap.size w wr) (fun i _ => L.length - (intOf i).toNat)
  case atStart => exact ⟨0, Nat.zero_le _, rfl, fun j h h0 => by omega, Below.refl _ _⟩
  case round =>
    obtain ⟨k, hk, rfl, hok, hb⟩ := hrel
    by_cases hlt : k < L.length
    · obtain ⟨b, off, rfl, hbl, hcell⟩ := hc (by intro e; simp [e] at hlt)
      have hc0 := (hb.cell (p := ⟨b, off + k, none⟩) hbl).trans (hcell k hlt)
      have hz := hb.size
      have hss := hs k hlt
      by_cases hbig : L[k].size ≤ 4000
      · have HN : Hid (∀ j (h : j < L.length), j < k + 1 → L[j].size ≤ 4000) := by
          intro j h hj
          by_cases e : j = k
          · subst e; exact hbig
          · exact hok j h (by omega)
        clear hok hcell hc hs
        generalize L[k] = s at *
        go_wp2
        go_roundw
        case rel => exact ⟨k + 1, by omega, by go_num, HN.out, hb⟩
        case measure => simp [intOf]; omega
      · have HG : Hid (gfB L = false) := gfB_no k hlt hbig
        clear hok hcell hc hs
        generalize L[k] = s at *
        go_wp2
        go_ret
        exact ⟨by rw [HG.out]; rfl, hb⟩
    · have HG : Hid (gfB L = decide ((L.length : Int) ≤ 12)) := by
        show _ = _
        by_cases h12 : L.length ≤ 12
        · rw [(gfB_iff L).2 ⟨h12, fun i h => hok i h (by omega)⟩]; symm; rw [decide_eq_true_eq]; omega
        · rw [gfB_long h12]; symm; rw [decide_eq_false_iff_not]; omega
      clear hok hc hs
      go_wp2
      go_ret
      exact ⟨by rw [HG.out]; rfl, hb⟩

theorem wtL_take (L : List ByteArray) (k : Nat) (h : k < L.length) : wtL (L.take (k + 1)) = wtL (L.take k) ++ [⟨(L[k].size : Int), ((csum L[k].data.toList : Nat) : Int)⟩] := by
  unfold wtL
  rw [List.take_succ_eq_append_getElem h, List.map_append]; rfl
theorem wtL_length (L : List ByteArray) : (wtL L).length = L.length := by simp [wtL]

set_option maxHeartbeats 4000000 in
theorem implWant_any (v : Value) (L : List ByteArray) (w : World) (hv : SL w v L) (hn : L.length ≤ 1048576) (hs : ∀ i (h : i < L.length), L[i].size ≤ 1048576) :
    Calls Try.prog 30 #[v] w fun e w' => ∃ u, e = .returned (.tuple #[u, .bool (gfB L)]) ∧ w'.ownsRow w.heap.size 54 2 u (wtR L).length (flat2 (wtR L)) ∧ Below w.heap.size w w' := by
  have K := goodFiles_any v L w hv hn hs
  obtain ⟨a, cap, rfl, hc⟩ := hv
  cases hg : gfB L with
  | false =>
    have HR : Hid (wtR L = []) := by show _ = _; unfold wtR; rw [hg]; rfl
    rw [HR.out]
    rw [hg] at K
    clear hc hs
    go_enter Try.func30, Try.ntmps30
    go_wp2_with fail
    refine K.mono ?_
    rintro e w1 ⟨rfl, hb⟩
    clear K
    go_wp2
    go_ret2
    exact ⟨_, rfl, World.ownsRow_nil _ _ _ _, hb⟩
  | true =>
    have HR : Hid (wtR L = wtL L) := by show _ = _; unfold wtR; rw [hg]; rfl
    rw [HR.out]
    rw [hg] at K
    have h12 := ((gfB_iff L).1 hg).1
    clear HR
    have HLT : Hid (wtL (L.take L.length) = wtL L) := by show _ = _; rw [List.take_length]
    have HLL : Hid ((wtL L).length = L.length) := wtL_length L
    go_enter Try.func30, Try.ntmps30
    go_wp2_with fail
    refine K.mono ?_
    rintro e w1 ⟨rfl, hb0⟩
    clear K hg
    have hz0 := hb0.size
    go_wp2
    go_loopw [4, 12] (fun z i wr => ∃ (k : Nat), k ≤ L.length ∧ i = .int .i64 k ∧ wr.ownsRow w1.heap.size 54 2 z k (flat2 (wtL (L.take k))) ∧ Below w1.heap.size w1 wr) (fun _ i _ => L.length - (intOf i).toNat)
    case atStart => exact ⟨0, Nat.zero_le _, rfl, World.ownsRow_nil _ _ _ _, Below.refl _ _⟩
    case round =>
      obtain ⟨k, hk, rfl, hown, hb⟩ := hrel
      by_cases hlt : k < L.length
      · obtain ⟨b, off, rfl, hbl, hcell⟩ := hc (by intro e; simp [e] at hlt)
        have hc0 := ((below_then hb0 hb).cell (p := ⟨b, off + k, none⟩) hbl).trans (hcell k hlt)
        have hss := hs k hlt
        have HW : Hid (wtL (L.take (k + 1)) = wtL (L.take k) ++ [⟨(L[k].size : Int), ((csum L[k].data.toList : Nat) : Int)⟩]) := wtL_take L k hlt
        clear HLT HLL hcell hc hs
        generalize L[k] = s at *
        have KS := fun w => implSum_any s w (by omega)
        generalize csum s.data.toList = r at *
        generalize wtL (L.take k) = T at *
        obtain ⟨za, zc, rfl⟩ := owns_shape hown
        have hz := hb.size
        have hge := owns_ge hown
        go_wp2_with fail
        refine (KS _).mono ?_
        rintro e w2 ⟨rfl, hb2⟩
        replace hown := owns_below hown hb2
        replace hb := hb.trans (hb2.mono hz)
        clear KS hc0 hb2
        have hz2 := hb.size
        go_wp2_with (at_builtin; refine wpList_append_wt _ rfl _ _ rfl rfl w1.heap.size _ k T rfl (owns_below hown (below_alloc _ _)) w2.heap.size ⟨(s.size : Int), (r : Int)⟩ rfl (Box.new w2 #[.int .i64 (s.size : Int), .int .u32 (r : Int)] 54) (by omega) (by simp; omega) ?_; intro v' w3 hown3 hgr3)
        obtain ⟨va, vc, rfl⟩ := owns_shape hown3
        have hb3 : Below w1.heap.size w1 w3 := (hb.alloc hz2 _).grown hgr3 (by simp; omega) hge
        have HO : Hid _ := hown3
        clear hown hgr3 hb hge hown3
        go_wp2
        go_roundw
        case rel => exact ⟨k + 1, by omega, by go_num, by rw [HW.out]; exact HO.out, hb3⟩
        case measure => simp [intOf]; omega
      · obtain rfl : k = L.length := by omega
        rw [HLT.out] at hown
        obtain ⟨za, zc, rfl⟩ := owns_shape hown
        clear hc hs
        go_wp2
        go_ret2
        exact ⟨_, rfl, by rw [HLL.out]; exact owns_mono' hown hz0, below_then hb0 hb⟩

set_option maxHeartbeats 4000000 in
theorem specWant_any (v : Value) (L : List ByteArray) (w : World) (hv : SL w v L) (hn : L.length ≤ 1048576) (hs : ∀ i (h : i < L.length), L[i].size ≤ 1048576) :
    Calls Try.prog 32 #[v] w fun e w' => ∃ u, e = .returned (.tuple #[u, .bool (gfB L)]) ∧ w'.ownsRow w.heap.size 54 2 u (wtR L).length (flat2 (wtR L)) ∧ Below w.heap.size w w' := by
  have K := l13Files_any v L w hv hn hs
  obtain ⟨a, cap, rfl, hc⟩ := hv
  cases hg : gfB L with
  | false =>
    have HR : Hid (wtR L = []) := by show _ = _; unfold wtR; rw [hg]; rfl
    rw [HR.out]
    rw [hg] at K
    clear hc hs
    go_enter Try.func32, Try.ntmps32
    go_wp2_with fail
    refine K.mono ?_
    rintro e w1 ⟨rfl, hb⟩
    clear K
    go_wp2
    go_ret2
    exact ⟨_, rfl, World.ownsRow_nil _ _ _ _, hb⟩
  | true =>
    have HR : Hid (wtR L = wtL L) := by show _ = _; unfold wtR; rw [hg]; rfl
    rw [HR.out]
    rw [hg] at K
    have h12 := ((gfB_iff L).1 hg).1
    clear HR
    have HLT : Hid (wtL (L.take L.length) = wtL L) := by show _ = _; rw [List.take_length]
    have HLL : Hid ((wtL L).length = L.length) := wtL_length L
    go_enter Try.func32, Try.ntmps32
    go_wp2_with fail
    refine K.mono ?_
    rintro e w1 ⟨rfl, hb0⟩
    clear K hg
    have hz0 := hb0.size
    go_wp2
    go_loopw [4, 12] (fun z i wr => ∃ (k : Nat), k ≤ L.length ∧ i = .int .i64 k ∧ wr.ownsRow w1.heap.size 54 2 z k (flat2 (wtL (L.take k))) ∧ Below w1.heap.size w1 wr) (fun _ i _ => L.length - (intOf i).toNat)
    case atStart => exact ⟨0, Nat.zero_le _, rfl, World.ownsRow_nil _ _ _ _, Below.refl _ _⟩
    case round =>
      obtain ⟨k, hk, rfl, hown, hb⟩ := hrel
      by_cases hlt : k < L.length
      · obtain ⟨b, off, rfl, hbl, hcell⟩ := hc (by intro e; simp [e] at hlt)
        have hc0 := ((below_then hb0 hb).cell (p := ⟨b, off + k, none⟩) hbl).trans (hcell k hlt)
        have hss := hs k hlt
        have HW : Hid (wtL (L.take (k + 1)) = wtL (L.take k) ++ [⟨(L[k].size : Int), ((csum L[k].data.toList : Nat) : Int)⟩]) := wtL_take L k hlt
        clear HLT HLL hcell hc hs
        generalize L[k] = s at *
        have KS := fun w => l2Sum_any s w (by omega)
        generalize csum s.data.toList = r at *
        generalize wtL (L.take k) = T at *
        obtain ⟨za, zc, rfl⟩ := owns_shape hown
        have hz := hb.size
        have hge := owns_ge hown
        go_wp2_with fail
        refine (KS _).mono ?_
        rintro e w2 ⟨rfl, hb2⟩
        replace hown := owns_below hown hb2
        replace hb := hb.trans (hb2.mono hz)
        clear KS hc0 hb2
        have hz2 := hb.size
        go_wp2_with (at_builtin; refine wpList_append_wt _ rfl _ _ rfl rfl w1.heap.size _ k T rfl (owns_below hown (below_alloc _ _)) w2.heap.size ⟨(s.size : Int), (r : Int)⟩ rfl (Box.new w2 #[.int .i64 (s.size : Int), .int .u32 (r : Int)] 54) (by omega) (by simp; omega) ?_; intro v' w3 hown3 hgr3)
        obtain ⟨va, vc, rfl⟩ := owns_shape hown3
        have hb3 : Below w1.heap.size w1 w3 := (hb.alloc hz2 _).grown hgr3 (by simp; omega) hge
        have HO : Hid _ := hown3
        clear hown hgr3 hb hge hown3
        go_wp2
        go_roundw
        case rel => exact ⟨k + 1, by omega, by go_num, by rw [HW.out]; exact HO.out, hb3⟩
        case measure => simp [intOf]; omega
      · obtain rfl : k = L.length := by omega
        rw [HLT.out] at hown
        obtain ⟨za, zc, rfl⟩ := owns_shape hown
        clear hc hs
        go_wp2
        go_ret2
        exact ⟨_, rfl, by rw [HLL.out]; exact owns_mono' hown hz0, below_then hb0 hb⟩
end Go.Proofs.Ytocaigffikdlhaa
