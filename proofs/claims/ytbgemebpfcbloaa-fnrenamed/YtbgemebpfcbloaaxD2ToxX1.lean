/-
  spec.DrawSumOf, spec.DrawSumOn, laws.numberOf; bytes of a text that may be written.
  The cursor's one; what is left below.
  Drawn steps: the cursor's among, of, fileName, diskStep.
-/
import Derived.Test.YtbgemebpfcbloaaxD1
namespace Go.Proofs.Ytbgemebpfcbloaa
open Go.RowKit
set_option maxRecDepth 100000
set_option linter.unusedVariables false

/-- The value v is a slice whose elements are the bytes l. -/
def YL (w : World) (v : Value) (l : List UInt8) : Prop :=
  ∃ a cap, v = .slice a l.length cap ∧ (l ≠ [] → ∃ cb off, a = some ⟨cb, off, none⟩ ∧ cb < w.heap.size ∧ ∀ i (h : i < l.length), w.cell? ⟨cb, off + i, none⟩ = some (.int .u8 (l[i].toNat : Int)))
theorem YL.below {w w' : World} {v : Value} {l : List UInt8} (h : YL w v l) (hb : Below w.heap.size w w') : YL w' v l := by
  obtain ⟨a, cap, hv, hc⟩ := h
  refine ⟨a, cap, hv, fun hl => ?_⟩
  obtain ⟨b, off, ha, hbl, hcell⟩ := hc hl
  exact ⟨b, off, ha, Nat.lt_of_lt_of_le hbl hb.size, fun i hi => (hb.cell (p := ⟨b, off + i, none⟩) hbl).trans (hcell i hi)⟩
theorem cur_new {w : World} {v : Value} {l : List UInt8} (h : YL w v l) : Cur (w.alloc (.cells #[v, .int .i64 0, .int .u64 0] 90)) w.heap.size l 0 := by
  have hb := below_alloc w (.cells #[v, .int .i64 0, .int .u64 0] 90)
  refine ⟨v, 0, 0, Box.new w #[v, .int .i64 0, .int .u64 0] 90, by omega, by omega, ?_⟩
  obtain ⟨a, cap, rfl, hc⟩ := h
  refine ⟨a, cap, rfl, fun hl => ?_⟩
  obtain ⟨cb, off, ha, hbl, hcell⟩ := hc hl
  exact ⟨cb, off, ha, Nat.lt_of_lt_of_le hbl hb.size, hbl, fun i hi => (hb.cell (p := ⟨cb, off + i, none⟩) hbl).trans (hcell i hi)⟩
theorem below_cur {w w1 w2 : World} (hb : Below w.heap.size w w1) (hc : Chg (· = w.heap.size) w1 w2) : Below w.heap.size w w2 :=
  hb.trans (hc.below hb.size (fun k hk => by omega))

set_option maxRecDepth 100000 in
set_option maxHeartbeats 1000000 in
theorem numberOf_any (v : Value) (l : List UInt8) (w : World) (h : YL w v l) (hl : l.length ≤ 9223372036854775807) :
    Calls Try.prog 15 #[v] w fun e w' => (∃ x : Nat, e = .returned (.int .i64 x) ∧ x ≤ 1000003) ∧ w' = w := by
  obtain ⟨a, cap, rfl, hc⟩ := h
  go_enter Try.func15, Try.ntmps15
  go_wp2
  go_loopw [3, 8] (fun n i wr => ∃ (j x : Nat), j ≤ l.length ∧ i = .int .i64 j ∧ n = .int .i64 x ∧ x ≤ 1000003 ∧ wr = w) (fun _ i _ => l.length - (intOf i).toNat)
  case atStart => exact ⟨0, 0, by omega, rfl, rfl, by omega, rfl⟩
  case round =>
    obtain ⟨j, x, hj, rfl, rfl, hx, rfl⟩ := hrel
    by_cases hlt : j < l.length
    · obtain ⟨cb, off, rfl, hbl, hcell⟩ := hc (by intro e; simp [e] at hlt)
      obtain ⟨c, hce⟩ : ∃ c, c = l[j] := ⟨_, rfl⟩
      have hc0 : wr.cell? ⟨cb, off + j, none⟩ = some (.int .u8 (c.toNat : Int)) := by rw [hce]; exact hcell j hlt
      have hcl := c.toNat_lt
      clear hcell hce hc
      go_wp2
      go_roundw
      case rel => exact ⟨j + 1, (31 * x + c.toNat) % 1000003, by omega, by go_num, by go_num, by omega, trivial⟩
      case measure => simp [intOf]; omega
    · go_wp2
      go_ret
      exact ⟨⟨x, rfl, hx⟩, rfl⟩

/-- Block g holds the bytes m; they may be written. -/
def Wr (w : World) (g : Nat) (m : List UInt8) : Prop := g < w.heap.size ∧ ∀ j (h : j < m.length), w.cell? ⟨g, j, none⟩ = some (.int .u8 (m[j].toNat : Int)) ∧ w.frozen? ⟨g, j, none⟩ = false
theorem Wr.below {w w' : World} {g : Nat} {m : List UInt8} (h : Wr w g m) (hb : Below w.heap.size w w') : Wr w' g m :=
  ⟨Nat.lt_of_lt_of_le h.1 hb.size, fun j hj => ⟨(hb.cell (p := ⟨g, j, none⟩) h.1).trans (h.2 j hj).1, (hb.frozen (p := ⟨g, j, none⟩) h.1).trans (h.2 j hj).2⟩⟩
theorem Wr.set {w : World} {g : Nat} {m : List UInt8} (h : Wr w g m) (i : Nat) (hi : i < m.length) (c : UInt8) : Wr (w.setCell ⟨g, i, none⟩ (.int .u8 (c.toNat : Int))) g (m.set i c) := by
  refine ⟨by simpa using h.1, fun j hj => ⟨?_, by simpa using (h.2 j (by simpa using hj)).2⟩⟩
  by_cases hji : j = i
  · subst hji
    rw [World.cell?_setCell_same _ _ _ (h.2 j hi).1, List.getElem_set_self]
  · rw [World.cell?_setCell_other _ _ _ _ (fun e => hji (congrArg Addr.off e).symm), List.getElem_set_ne (by omega)]
    exact (h.2 j (by simpa using hj)).1
theorem bytes_of (s : ByteArray) (w : World) : ∃ cap W', (convert 9 22 (.string s)).run Try.prog w = .ok (.slice (some ⟨w.heap.size, 0, none⟩) s.size cap) W' ∧ Wr W' w.heap.size s.data.toList ∧ Below w.heap.size w W' := by
  refine ⟨_, _, run_bytes_of_string w 9 22 5 s Try.underlying9 Try.underlying22 Try.underlying5, ⟨?_, fun j hj => ?_⟩, (Below.refl _ _).drew.alloc (Nat.le_refl _) _⟩
  · simp
  · have hj' : j < s.data.size := by simpa using hj
    refine ⟨?_, ?_⟩
    · refine (World.cell?_alloc_mark w.drew _ _ _ j).trans ?_
      rw [bytesRow_at s _ j hj']; simp
    · refine (World.frozen?_alloc_mark w.drew _ _ _ _ j).trans ?_
      have hsz : s.data.size ≤ (bytesRow s (grownCap w s.size 0 5)).size := by
        unfold bytesRow
        rw [Array.size_append, Array.size_map]; omega
      rw [decide_eq_false (by omega), Bool.false_and]
theorem conv_wr {w : World} {g cap n : Nat} {m : List UInt8} (h : Wr w g m) (hn : m.length = n) : (convert 22 9 (.slice (some ⟨g, 0, none⟩) n cap)).run Try.prog w = .ok (.string ⟨m.toArray⟩) w := by
  subst hn
  have := run_convert_bytes_back (P := Try.prog) w 22 9 5 ⟨g, 0, none⟩ cap m Try.underlying22 Try.underlying5 Try.underlying9 (by
    intro j hj
    rw [show (⟨g, 0, none⟩ : Addr).add j = ⟨g, j, none⟩ from by simp [Addr.add]; omega]
    exact (h.2 j hj).1)
  simpa using this
end Go.Proofs.Ytbgemebpfcbloaa

namespace Go.Proofs.Ytbgemebpfcbloaa
open Go.RowKit
set_option linter.unusedVariables false

set_option maxRecDepth 100000 in
set_option maxHeartbeats 1000000 in
theorem one_any (b : Nat) (l : List UInt8) (K n : Nat) (w : World) (h : Cur w b l K) (hl : l.length ≤ 9223372036854775807) (hK : K ≤ 100000000) (hn : n ≤ 1000000) :
    Calls Try.prog 98 #[.pointer (some ⟨b, 0, none⟩), .int .i64 n] w fun e w' => (∃ x : Bool, e = .returned (.bool x)) ∧ Cur w' b l (K + 2) ∧ Chg (· = b) w w' := by
  go_enter Try.func98, Try.ntmps98
  go_wp2_with fail
  refine (pick_any b l K n _ h hl hK hn).mono ?_
  rintro e w1 ⟨⟨x, rfl, hx⟩, hc1, hch1⟩
  go_wp2
  go_ret
  exact ⟨⟨_, rfl⟩, hc1, hch1⟩

/-- What is left below B, with the cursor below B. -/
theorem cur_low {w w' : World} {b B : Nat} {l : List UInt8} {K : Nat} (h : Cur w b l K) (hB : b < B) (hb : Below B w w') : Cur w' b l K := by
  obtain ⟨v, k, sd, X, h1, h2, a, cap, rfl, hc⟩ := h
  refine ⟨_, k, sd, ⟨Nat.lt_of_lt_of_le X.1 hb.size, fun j u hu => (hb.cell (p := ⟨b, j, none⟩) hB).trans (X.2.1 j u hu), fun j => (hb.frozen (p := ⟨b, j, none⟩) hB).trans (X.2.2 j)⟩, h1, h2, a, cap, rfl, fun hl => ?_⟩
  obtain ⟨cb, off, ha, hcb, hne, hcell⟩ := hc hl
  exact ⟨cb, off, ha, Nat.lt_of_lt_of_le hcb hb.size, hne, fun i hi => (hb.cell (p := ⟨cb, off + i, none⟩) (show cb < B by omega)).trans (hcell i hi)⟩

theorem chg_below {S : Nat → Prop} {w w1 w2 : World} (h : Chg S w w1) (hb : Below w.heap.size w1 w2) : Chg S w w2 :=
  ⟨hb.os.trans h.os, hb.tape.trans h.tape, hb.output.trans h.output, Nat.le_trans h.size hb.size, fun k hk hs => (hb.block k hk).trans (h.block k hk hs)⟩

end Go.Proofs.Ytbgemebpfcbloaa

namespace Go.Proofs.Ytbgemebpfcbloaa
open Go.RowKit
set_option linter.unusedVariables false
set_option maxRecDepth 100000

def LitI (w : World) (g : Nat) (zs : List Int) : Prop := g < w.heap.size ∧ ∀ i (h : i < zs.length), w.cell? ⟨g, i, none⟩ = some (.int .i64 zs[i])
theorem lit_of_box {w : World} {g : Nat} {zs : List Int} (h : Box w g (zs.map (.int .i64))) : LitI w g zs :=
  ⟨h.1, fun i hi => h.2.1 i _ (by simp [hi])⟩
def LitS (w : World) (g : Nat) (zs : List ByteArray) : Prop := g < w.heap.size ∧ ∀ i (h : i < zs.length), w.cell? ⟨g, i, none⟩ = some (.string zs[i])
theorem litS_of_box {w : World} {g : Nat} {zs : List ByteArray} (h : Box w g (zs.map .string)) : LitS w g zs :=
  ⟨h.1, fun i hi => h.2.1 i _ (by simp [hi])⟩

set_option maxHeartbeats 1000000 in
theorem among_any (b : Nat) (l : List UInt8) (K : Nat) (g n : Nat) (zs : List Int) (w : World) (h : Cur w b l K) (hl : l.length ≤ 9223372036854775807) (hK : K ≤ 100000000) (hg : LitI w g zs) (hb : g ≠ b) (hn : zs.length = n) (h0 : 0 < n) (h1 : n ≤ 100) :
    Calls Try.prog 94 #[.pointer (some ⟨b, 0, none⟩), .slice (some ⟨g, 0, none⟩) n n] w fun e w' => (∃ x ∈ zs, e = .returned (.int .i64 x)) ∧ Cur w' b l (K + 2) ∧ Chg (· = b) w w' := by
  have KP := pick_any b l K n w h hl hK (by omega)
  clear h
  go_enter Try.func94, Try.ntmps94
  go_wp2_with fail
  refine KP.mono ?_
  rintro e w1 ⟨⟨x, rfl, hx⟩, C1, G1⟩
  have hxn : x < n := by omega
  have hxz : x < zs.length := by omega
  have c0 := (G1.cell (p := ⟨g, x, none⟩) hg.1 hb).trans (hg.2 x hxz)
  have hm := List.getElem_mem hxz
  clear KP hg hx
  generalize zs[x] = z at *
  go_wp2
  go_ret
  exact ⟨⟨z, hm, rfl⟩, C1, G1⟩
set_option maxHeartbeats 1000000 in
theorem of_any (b : Nat) (l : List UInt8) (K : Nat) (g n : Nat) (zs : List ByteArray) (w : World) (h : Cur w b l K) (hl : l.length ≤ 9223372036854775807) (hK : K ≤ 100000000) (hg : LitS w g zs) (hb : g ≠ b) (hn : zs.length = n) (h0 : 0 < n) (h1 : n ≤ 100) :
    Calls Try.prog 128 #[.pointer (some ⟨b, 0, none⟩), .slice (some ⟨g, 0, none⟩) n n] w fun e w' => (∃ x ∈ zs, e = .returned (.string x)) ∧ Cur w' b l (K + 2) ∧ Chg (· = b) w w' := by
  have KP := pick_any b l K n w h hl hK (by omega)
  clear h
  go_enter Try.func128, Try.ntmps128
  go_wp2_with fail
  refine KP.mono ?_
  rintro e w1 ⟨⟨x, rfl, hx⟩, C1, G1⟩
  have hxn : x < n := by omega
  have hxz : x < zs.length := by omega
  have c0 := (G1.cell (p := ⟨g, x, none⟩) hg.1 hb).trans (hg.2 x hxz)
  have hm := List.getElem_mem hxz
  clear KP hg hx
  generalize zs[x] = z at *
  go_wp2
  go_ret
  exact ⟨⟨z, hm, rfl⟩, C1, G1⟩
set_option maxHeartbeats 1000000 in
theorem fileName_any (b : Nat) (l : List UInt8) (K : Nat) (w : World) (h : Cur w b l K) (hl : l.length ≤ 9223372036854775807) (hK : K ≤ 10000000) :
    Calls Try.prog 96 #[.pointer (some ⟨b, 0, none⟩)] w fun e w' => (∃ x : ByteArray, e = .returned (.string x) ∧ x.size ≤ 13) ∧ Cur w' b l (K + 4) ∧ Chg (· = b) w w' := by
  have hbw := h.lt
  go_enter Try.func96, Try.ntmps96
  go_wp2_with fail
  refine (one_any b l K 60 _ h hl (by omega) (by omega)).mono ?_
  rintro e w1 ⟨⟨y, rfl⟩, C1, G1⟩
  have hz1 := G1.size
  clear h
  cases y with
  | true =>
    have X := litS_of_box (zs := [⟨#[]⟩, ⟨#[65]⟩, ⟨#[49, 50, 51, 52, 53, 54, 55, 56, 57, 48, 49, 50, 51]⟩]) (Box.new w1 #[.string ⟨#[]⟩, .string ⟨#[65]⟩, .string ⟨#[49, 50, 51, 52, 53, 54, 55, 56, 57, 48, 49, 50, 51]⟩] 9)
    have hb2 := below_alloc w1 (.cells #[.string ⟨#[]⟩, .string ⟨#[65]⟩, .string ⟨#[49, 50, 51, 52, 53, 54, 55, 56, 57, 48, 49, 50, 51]⟩] 9)
    have C2 := C1.chg hb2
    have G2 := G1.trans (Chg.of_below (S := (· = b)) hb2)
    have KO := of_any b l (K + 2) w1.heap.size 3 _ _ C2 hl (by omega) X (by omega) rfl (by omega) (by omega)
    clear C1 X hb2 C2
    go_wp2_with fail
    refine KO.mono ?_
    rintro e w3 ⟨⟨x, hx, rfl⟩, C3, G3⟩
    have hxs : x.size ≤ 13 := by
      simp only [List.mem_cons, List.not_mem_nil, or_false] at hx
      rcases hx with rfl | rfl | rfl <;> decide
    clear KO hx
    go_wp2
    go_ret
    exact ⟨⟨x, rfl, hxs⟩, C3, G2.trans G3⟩
  | false =>
    have X := litS_of_box (zs := [⟨#[97]⟩, ⟨#[98]⟩, ⟨#[108, 111, 103, 46, 49]⟩, ⟨#[120]⟩]) (Box.new w1 #[.string ⟨#[97]⟩, .string ⟨#[98]⟩, .string ⟨#[108, 111, 103, 46, 49]⟩, .string ⟨#[120]⟩] 9)
    have hb2 := below_alloc w1 (.cells #[.string ⟨#[97]⟩, .string ⟨#[98]⟩, .string ⟨#[108, 111, 103, 46, 49]⟩, .string ⟨#[120]⟩] 9)
    have C2 := C1.chg hb2
    have G2 := G1.trans (Chg.of_below (S := (· = b)) hb2)
    have KO := of_any b l (K + 2) w1.heap.size 4 _ _ C2 hl (by omega) X (by omega) rfl (by omega) (by omega)
    clear C1 X hb2 C2
    go_wp2_with fail
    refine KO.mono ?_
    rintro e w3 ⟨⟨x, hx, rfl⟩, C3, G3⟩
    have hxs : x.size ≤ 13 := by
      simp only [List.mem_cons, List.not_mem_nil, or_false] at hx
      rcases hx with rfl | rfl | rfl | rfl <;> decide
    clear KO hx
    go_wp2
    go_ret
    exact ⟨⟨x, rfl, hxs⟩, C3, G2.trans G3⟩
end Go.Proofs.Ytbgemebpfcbloaa
