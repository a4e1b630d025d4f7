/-
  A drawn taking to be finished: spec.DrawFinishTaking.
  laws.sameChunks, laws.sameTexts of the same.
-/
import Derived.Test.YtocaigffikdlhaaDW
import Derived.Test.YtocaigffikdlhaaKP
import Derived.Test.YtocaigffikdlhaaG1ToD5
namespace Go.Proofs.Ytocaigffikdlhaa
open Go.RowKit Go.Maps
set_option linter.unusedVariables false
set_option maxRecDepth 100000

/-- What DrawFinishTaking answers. -/
def DFTPost (w : World) (e : Ending) (w' : World) : Prop := (∃ (a c v : Value) (W : List Wt) (G C : List Ck), e = .returned (.agg #[a, c]) ∧ DT w' w.heap.size a c v W G C) ∧ Below w.heap.size w w'
theorem DFTPost.mk {w w' : World} {a c v : Value} {W : List Wt} {G C : List Ck} (h : DT w' w.heap.size a c v W G C) (hb : Below w.heap.size w w') : DFTPost w (.returned (.agg #[a, c])) w' := ⟨⟨_, _, _, _, _, _, rfl, h⟩, hb⟩
set_option maxHeartbeats 64000000 in
theorem drawFT_any (v0 : Value) (l : List UInt8) (w : World) (hv : YL w v0 l) (hl : l.length ≤ maxLen) : Calls Try.prog 27 #[v0] w (DFTPost w) := by
  unfold maxLen at hl
  have B2 := below_alloc w (.cells #[.slice none 0 0, .slice none 0 0] 41)
  have hv2 := hv.below B2
  have R := (Box.new w #[.slice none 0 0, .slice none 0 0] 41).alloc (.cells #[v0, .int .i64 0, .int .u64 0] 88)
  have hB := below2 w (.cells #[.slice none 0 0, .slice none 0 0] 41) (.cells #[v0, .int .i64 0, .int .u64 0] 88)
  have hcu := cur_new hv2
  simp only [World.size_alloc] at hcu
  obtain ⟨va, vc, rfl, _⟩ := hv
  clear hv2 B2
  go_enter Try.func27, Try.ntmps27
  go_wp2_with fail
  refine (taking_any _ l 0 _ hcu (by omega) (by omega)).mono ?_
  rintro e w1 ⟨⟨a, c, v, W, G, C, rfl, D⟩, hc1, hch⟩
  simp only [World.size_alloc] at D
  have sB : ∀ k, k = w.heap.size + 1 → w.heap.size ≤ k := fun k q => by omega
  replace R := hch.box R (by omega)
  replace hB := hB.trans (hch.below (B := w.heap.size) (by simp <;> omega) sB)
  have hlt := D.lt
  have hge := D.ge
  have hw1 := hc1.lt
  clear hch hcu
  have bx := below_alloc w1 (.cells #[a, c] 41)
  have X := Box.new w1 #[a, c] 41
  replace R := R.below bx
  replace D := D.below bx
  replace hB := hB.trans (bx.mono hB.size)
  have hcu := hc1.chg bx
  clear bx hc1
  obtain ⟨⟨xa, xb, rfl⟩, ⟨ya, yb, rfl⟩, za, zb, rfl⟩ := D.shapes
  go_wp2_with fail
  refine (one_any _ l _ 3 _ hcu (by omega) (by omega) (by omega)).mono ?_
  rintro e w2 ⟨⟨y3, rfl⟩, hcu2, hch⟩
  replace X := hch.box X (by omega)
  replace R := hch.box R (by omega)
  replace D := D.chg hch (fun g hg q => by have := hge g hg; omega)
  replace hB := hB.trans (hch.below (B := w.heap.size) (by have := hB.size; omega) sB)
  clear hch hcu2 hcu
  have han : ∀ g, (Value.slice xa W.length xb).ownBlock = some g → g < w1.heap.size := fun g hg => hlt g (.inl hg)
  have hvn : ∀ g, (Value.slice za C.length zb).ownBlock = some g → g < w1.heap.size := fun g hg => hlt g (.inr (.inr hg))
  have hcn0 : ∀ g, (Value.slice ya G.length yb).ownBlock = some g → ¬ g = w1.heap.size := fun g hg q => by have := hlt g (.inr (.inl hg)); omega
  have HOK : Hid (wOk W) := D.ok
  have HCS : Hid (∀ i (h : i < C.length), C[i].k.size ≤ 4001) := D.cs
  have hcl := D.cl
  cases y3 with
  | true =>
    obtain ⟨_, x0, x1⟩ := X.c2
    obtain ⟨_, r0, r1, rf0, rf1⟩ := R.f2
    have PC := put2_chg w2 w.heap.size (.slice xa W.length xb) (.slice ya G.length yb)
    have D2 := (D.chg PC (fun g hg q => by have := hge g hg; omega)).mono (show w.heap.size ≤ w.heap.size + 1 + 1 from by omega)
    have hB2 := hB.trans (PC.below (B := w.heap.size) (by have := hB.size; omega) (fun k q => by omega))
    have HD : Hid _ := D2
    clear X R D D2 hB PC hlt hge
    go_wp2
    exact bodyPost_ret (v := .agg #[.slice xa W.length xb, .slice ya G.length yb]) (by simp [results, Try.results27, go_sem, r0, r1]) rfl (DFTPost.mk HD.out hB2)
  | false =>
    have oa := D.oa
    have oc := D.oc
    have ov := D.ov
    have hsr0 := D.srt
    have h2000 := D.len
    have hsz0 := D.sz
    clear D hlt hge
    go_wp2_with fail
    go_loopw [21] (fun i wr => ∃ (k : Nat) (c : Value) (G : List Ck), k ≤ C.length ∧ i = .int .i64 k ∧ Box wr w1.heap.size [.slice xa W.length xb, c] ∧ Box wr w.heap.size [.slice none 0 0, .slice none 0 0] ∧ wr.ownsRow (w.heap.size + 1 + 1) 54 2 (.slice xa W.length xb) W.length (flat2 W) ∧ wr.ownsRow (w.heap.size + 1 + 1) 37 4 c G.length (flat4 G) ∧ wr.ownsRow (w.heap.size + 1 + 1) 37 4 (.slice za C.length zb) C.length (flat4 C) ∧ (∀ g, c.ownBlock = some g → ¬ g = w1.heap.size) ∧ Srt G ∧ G.length ≤ 200 ∧ (∀ i (h : i < G.length), G[i].k.size ≤ 4001) ∧ Below w.heap.size w wr) (fun i _ => C.length - (intOf i).toNat)
    case atStart => exact ⟨0, _, G, by omega, rfl, X, R, oa, oc, ov, hcn0, hsr0, h2000, hsz0, hB⟩
    case round =>
      clear X R oa oc ov hB hcn0 hsr0 h2000 hsz0
      obtain ⟨k, c, G, hk, rfl, X, R, oa, oc, ov, hcn, hsr, h200, hgs, hB⟩ := hrel
      obtain ⟨ca, cb, rfl⟩ := owns_shape oc
      have HSR : Hid (Srt G) := hsr
      have HGS : Hid (∀ i (h : i < G.length), G[i].k.size ≤ 4001) := hgs
      have HCN : Hid (∀ g, (Value.slice ca G.length cb).ownBlock = some g → ¬ g = w1.heap.size) := hcn
      clear hsr hgs hcn
      have hX1 := X.1
      by_cases hlt : k < C.length
      · obtain ⟨vb, vo, rfl⟩ : ∃ vb vo, za = some ⟨vb, vo, none⟩ := by
          obtain ⟨aa, cc, he, hh⟩ := IR_of_owns ov rfl
          simp only [Value.slice.injEq, true_and] at he
          obtain ⟨rfl, rfl⟩ := he
          obtain ⟨b', o', h1, _⟩ := hh (by intro e; rw [e] at hlt; simp at hlt)
          exact ⟨b', o', h1⟩
        obtain ⟨q0, q1, q2, q3⟩ := chunkCells ov k hlt
        have hvb := owns_below_lt ov vb rfl
        have hys := HCS.out k hlt
        have bx := below_alloc wr (.cells #[.int .i64 C[k].n, .int .i64 C[k].d, .string C[k].k, .int .u32 C[k].v] 37)
        have Y := Box.new wr #[.int .i64 C[k].n, .int .i64 C[k].d, .string C[k].k, .int .u32 C[k].v] 37
        replace X := X.below bx
        replace R := R.below bx
        replace oa := owns_below oa bx
        replace oc := owns_below oc bx
        replace ov := owns_below ov bx
        have hB1 := hB.trans (bx.mono hB.size)
        clear bx hB
        obtain ⟨hxl, x0, x1⟩ := X.c2
        go_wp2_with fail
        refine (l13TakeS_any _ _ W G C[k] _ ⟨WR_of_owns oa rfl, IR_of_owns oc rfl⟩ (fun q n c e => by rw [Value.slice.injEq] at e; obtain ⟨_, rfl, rfl⟩ := e; exact owns_cap2 oc) HOK.out h200 HSR.out (by omega)).mono ?_
        rintro e w8 ⟨u, rfl, hu, hb8⟩
        have hsx := X.1
        have hsb := hB1.size
        replace X := X.below hb8
        replace R := R.below hb8
        replace oa := owns_below oa hb8
        replace oc := owns_below oc hb8
        replace ov := owns_below ov hb8
        have hB := hB1.trans (hb8.mono hB1.size)
        clear hB1 hb8 Y q0 q1 q2 q3 hxl x0 x1
        obtain ⟨G2, hG2⟩ : ∃ G2, G2 = tkN2 W G C[k] := ⟨_, rfl⟩
        have HSR2 : Hid (Srt G2) := by rw [hG2]; exact tk2_srt HSR.out
        have HGS2 : Hid (∀ i (h : i < G2.length), G2[i].k.size ≤ 4001) := by rw [hG2]; exact tk2_sz HGS.out hys
        have h2002 : G2.length ≤ 200 := by rw [hG2]; exact tk2_len h200
        rw [← hG2] at hu
        have hw0 : w.heap.size < w1.heap.size := by omega
        have hu2 : w8.ownsRow (w.heap.size + 1 + 1) 37 4 u G2.length (flat4 G2) ∧ (∀ g, u.ownBlock = some g → ¬ g = w1.heap.size) := by
          rcases hu with ⟨rfl, e2⟩ | hu
          · rw [e2]; exact ⟨oc, HCN.out⟩
          · simp only [World.size_alloc] at hu hsx
            exact ⟨owns_mono' hu (by omega), fun g hg => by have := owns_ge hu g hg; omega⟩
        obtain ⟨ou, hun⟩ := hu2
        have HCN2 : Hid (∀ g, u.ownBlock = some g → ¬ g = w1.heap.size) := hun
        obtain ⟨ua, ub, rfl⟩ := owns_shape ou
        generalize tkB2 W G C[k] = tb at *
        clear hu hun hG2 oc HSR HGS HCN h200 hys
        obtain ⟨hxl, x0, x1, xf0, xf1⟩ := X.f2
        have X2 := put2_box X (.slice xa W.length xb) (.slice ua G2.length ub)
        have PC := put2_chg w8 w1.heap.size (.slice xa W.length xb) (.slice ua G2.length ub)
        have R2 := PC.box R (by omega)
        have oa2 := PC.owns oa (fun g hg q => by have := han g hg; omega)
        have ov2 := PC.owns ov (fun g hg q => by have := hvn g hg; omega)
        have oc2 := PC.owns ou (fun g hg q => HCN2.out g hg q)
        have hB2 := hB.trans (PC.below (B := w.heap.size) (by have := hB.size; omega) (fun k q => by omega))
        clear PC X R oa ov ou hB
        go_wp2
        go_roundw
        case rel => exact ⟨k + 1, _, G2, by omega, by go_num, X2, R2, oa2, oc2, ov2, HCN2.out, HSR2.out, h2002, HGS2.out, hB2⟩
        case measure => simp [intOf]; omega
      · obtain ⟨_, x0, x1⟩ := X.c2
        obtain ⟨_, r0, r1, rf0, rf1⟩ := R.f2
        have PC := put2_chg wr w.heap.size (.slice xa W.length xb) (.slice ca G.length cb)
        have gw : ∀ {vv : Value} {e : TypeId} {s n : Nat} {xs : List Value} {W' : World}, W'.ownsRow (w.heap.size + 1 + 1) e s vv n xs → ∀ g, vv.ownBlock = some g → ¬ g = w.heap.size := fun hh g hg q => by have := owns_ge hh g hg; omega
        have HD : Hid (DT _ w.heap.size (.slice xa W.length xb) (.slice ca G.length cb) (.slice za C.length zb) W G C) := ⟨owns_mono' (PC.owns oa (gw oa)) (by omega), owns_mono' (PC.owns oc (gw oc)) (by omega), owns_mono' (PC.owns ov (gw ov)) (by omega), HOK.out, HSR.out, h200, HGS.out, hcl, HCS.out⟩
        have hB2 := hB.trans (PC.below (B := w.heap.size) (by have := hB.size; omega) (fun k q => by omega))
        clear X R oa oc ov hB PC
        go_wp2
        exact bodyPost_ret (v := .agg #[.slice xa W.length xb, .slice ca G.length cb]) (by simp [results, Try.results27, go_sem, r0, r1]) rfl (DFTPost.mk HD.out hB2)
end Go.Proofs.Ytocaigffikdlhaa

namespace Go.Proofs.Ytocaigffikdlhaa
open Go.RowKit Go.Maps
set_option linter.unusedVariables false
set_option maxRecDepth 100000

theorem neqCk_self (n d : Int) (k : ByteArray) (v : Int) (w : World) : (binOp .neq 37 (.agg #[.int .i64 n, .int .i64 d, .string k, .int .u32 v]) (.agg #[.int .i64 n, .int .i64 d, .string k, .int .u32 v])).run Try.prog w = .ok (.bool false) w := by
  have h := neqCkV ⟨n, d, k, v⟩ ⟨n, d, k, v⟩ w
  rw [(ckEq_iff _ _).2 rfl] at h
  exact h
set_option maxHeartbeats 4000000 in
theorem sameChunks_any (u v : Value) (l : List Ck) (w : World) (hu : IR w u l) (hv : IR w v l) (hn : l.length ≤ 1048576) :
    Calls Try.prog 20 #[u, v] w fun e w' => e = .returned (.bool true) ∧ Below w.heap.size w w' := by
  obtain ⟨a, cap, rfl, hc⟩ := hu
  obtain ⟨a', cap', rfl, hc'⟩ := hv
  have EN := neqCk_self
  go_enter Try.func20, Try.ntmps20
  go_wp2
  go_loopw [13] (fun i wr => ∃ k : Nat, k ≤ l.length ∧ i = .int .i64 k ∧ Below w.heap.size w wr) (fun i _ => l.length - (intOf i).toNat)
  case atStart => exact ⟨0, Nat.zero_le _, rfl, Below.refl _ _⟩
  case round =>
    obtain ⟨k, hk, rfl, hb⟩ := hrel
    by_cases hlt : k < l.length
    · obtain ⟨b, off, rfl, hbl, hcell⟩ := hc (by intro e; simp [e] at hlt)
      obtain ⟨b', off', rfl, hbl', hcell'⟩ := hc' (by intro e; simp [e] at hlt)
      obtain ⟨s, hse⟩ : ∃ s, s = l[k] := ⟨_, rfl⟩
      have hc0 := (hb.cell (p := ⟨b, off + k * 4, none⟩) hbl).trans (hcell k hlt).1
      have hc1 := (hb.cell (p := ⟨b, off + k * 4 + 1, none⟩) hbl).trans (hcell k hlt).2.1
      have hc2 := (hb.cell (p := ⟨b, off + k * 4 + 2, none⟩) hbl).trans (hcell k hlt).2.2.1
      have hc3 := (hb.cell (p := ⟨b, off + k * 4 + 3, none⟩) hbl).trans (hcell k hlt).2.2.2
      have hd0 := (hb.cell (p := ⟨b', off' + k * 4, none⟩) hbl').trans (hcell' k hlt).1
      have hd1 := (hb.cell (p := ⟨b', off' + k * 4 + 1, none⟩) hbl').trans (hcell' k hlt).2.1
      have hd2 := (hb.cell (p := ⟨b', off' + k * 4 + 2, none⟩) hbl').trans (hcell' k hlt).2.2.1
      have hd3 := (hb.cell (p := ⟨b', off' + k * 4 + 3, none⟩) hbl').trans (hcell' k hlt).2.2.2
      rw [← hse] at hc0 hc1 hc2 hc3 hd0 hd1 hd2 hd3
      clear hcell hse hc hcell' hc'
      have hz := hb.size
      obtain ⟨sn, sd, sk, sv⟩ := s
      dsimp only at hc0 hc1 hc2 hc3 hd0 hd1 hd2 hd3
      go_wp2_with fail
      go_quiet (fail)
      go_wp2
      go_roundw
      case rel => exact ⟨k + 1, by omega, by go_num, below_drewN hb _⟩
      case measure => simp [intOf]; omega
    · clear hc hc'
      go_wp2
      go_ret
      exact ⟨rfl, hb⟩
set_option maxHeartbeats 4000000 in
theorem sameTexts_any (u v : Value) (l : List ByteArray) (w : World) (hu : SL w u l) (hv : SL w v l) (hn : l.length ≤ 1048576) :
    Calls Try.prog 17 #[u, v] w fun e w' => e = .returned (.bool true) ∧ Below w.heap.size w w' := by
  obtain ⟨a, cap, rfl, hc⟩ := hu
  obtain ⟨a', cap', rfl, hc'⟩ := hv
  go_enter Try.func17, Try.ntmps17
  go_wp2
  go_loopw [13] (fun i wr => ∃ k : Nat, k ≤ l.length ∧ i = .int .i64 k ∧ Below w.heap.size w wr) (fun i _ => l.length - (intOf i).toNat)
  case atStart => exact ⟨0, Nat.zero_le _, rfl, Below.refl _ _⟩
  case round =>
    obtain ⟨k, hk, rfl, hb⟩ := hrel
    by_cases hlt : k < l.length
    · obtain ⟨b, off, rfl, hbl, hcell⟩ := hc (by intro e; simp [e] at hlt)
      obtain ⟨b', off', rfl, hbl', hcell'⟩ := hc' (by intro e; simp [e] at hlt)
      obtain ⟨s, hse⟩ : ∃ s, s = l[k] := ⟨_, rfl⟩
      have hc0 := (hb.cell (p := ⟨b, off + k, none⟩) hbl).trans (hcell k hlt)
      have hd0 := (hb.cell (p := ⟨b', off' + k, none⟩) hbl').trans (hcell' k hlt)
      rw [← hse] at hc0 hd0
      clear hcell hse hc hcell' hc'
      have hz := hb.size
      go_wp2_with fail
      go_quiet (fail)
      go_wp2
      go_roundw
      case rel => exact ⟨k + 1, by omega, by go_num, below_drewN hb _⟩
      case measure => simp [intOf]; omega
    · clear hc hc'
      go_wp2
      go_ret
      exact ⟨rfl, hb⟩
end Go.Proofs.Ytocaigffikdlhaa
