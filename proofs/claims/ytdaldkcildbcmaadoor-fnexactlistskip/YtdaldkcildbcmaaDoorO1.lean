/-
  The items of a level: plainly, and spec.l4List.
-/
import Derived.Test.YtdaldkcildbcmaaDoorN2
import Derived.Test.YtdaldkcildbcmaaDoorG2
import Derived.Test.YtdaldkcildbcmaaDoorH1
namespace Go.Proofs.YtdaldkcildbcmaaDoor
open Go.RowKit
set_option linter.unusedVariables false
set_option maxRecDepth 100000

def itOf (t : Tw) : It := ⟨t.key, t.seq, t.kind, t.val⟩
def lsL (ts : List Tw) (l : List Int) : List It := l.map fun x => itOf (tw ts x)
theorem lsL_len (ts : List Tw) (l : List Int) : (lsL ts l).length = l.length := by simp [lsL]
theorem lev_cases {ts : List Tw} {lv f : Nat} {a x : Int} {l : List Int} (h : lev ts lv f a x = some l) : (x = -1 ∧ l = []) ∨ ∃ f' l', f = f' + 1 ∧ l = x :: l' ∧ okAt ts lv x ∧ lev ts lv f' x (nx ts x lv) = some l' := by
  cases f with
  | zero => cases h
  | succ f =>
    rw [lev] at h
    by_cases h1 : x = -1
    · rw [if_pos h1] at h
      exact .inl ⟨h1, by simpa using h.symm⟩
    · rw [if_neg h1] at h
      by_cases h2 : mayB ts lv a x = true
      · rw [if_pos h2] at h
        obtain ⟨l', h3, h4⟩ := Option.map_eq_some_iff.1 h
        exact .inr ⟨f, l', rfl, h4.symm, ((mayB_iff ts lv a x).1 h2).1, h3⟩
      · rw [if_neg h2] at h
        cases h
theorem lev_len {ts : List Tw} {lv : Nat} : ∀ {f : Nat} {a x : Int} {l : List Int}, lev ts lv f a x = some l → l.length + 1 ≤ f
  | 0, a, x, l, h => by cases h
  | f + 1, a, x, l, h => by
    rcases lev_cases h with ⟨_, rfl⟩ | ⟨f', l', hf, rfl, _, h2⟩
    · simp
    · obtain rfl : f = f' := by omega
      have := lev_len h2
      simp only [List.length_cons]; omega
def sliceLen : Value → Nat
  | .slice _ n _ => n
  | _ => 0
theorem owns_lower {w : World} {base base' : Nat} {e : TypeId} {size : Nat} {v : Value} {n : Nat} {xs : List Value} (h : w.ownsRow base e size v n xs) (hb : base' ≤ base) : w.ownsRow base' e size v n xs := by
  refine ⟨h.1, ?_⟩
  rcases h.2 with h1 | ⟨g, c, cur, h1, h2, h3⟩
  · exact .inl h1
  · exact .inr ⟨g, c, cur, h1, by omega, h3⟩
theorem owns_below_lt {w : World} {base : Nat} {e : TypeId} {size : Nat} {v : Value} {n : Nat} {xs : List Value} (h : w.ownsRow base e size v n xs) : ∀ b, v.ownBlock = some b → b < w.heap.size := by
  intro b hb
  rcases h.2 with ⟨rfl, _⟩ | ⟨g', cap, cur, rfl, _, hh, _⟩
  · simp [Value.ownBlock] at hb
  · simp only [Value.ownBlock, Option.some.injEq] at hb
    subst hb
    exact (Array.getElem?_eq_some_iff.1 hh).1
theorem cells_new4 (W : World) (x : It) : ∀ j u, (flat4 [x])[j]? = some u → (W.alloc (.cells #[.string x.k, .int .i64 x.n, .int .i64 x.d, .string x.v] 28)).cell? ((⟨W.heap.size, 0, none⟩ : Addr).add j) = some u := by
  intro j u hj
  have hb := Box.new W #[.string x.k, .int .i64 x.n, .int .i64 x.d, .string x.v] 28
  rw [show (⟨W.heap.size, 0, none⟩ : Addr).add j = ⟨W.heap.size, j, none⟩ from by simp [Addr.add]; omega]
  exact hb.2.1 j u hj
theorem one4 (x : It) : ∀ u ∈ flat4 [x], u.oneCell' = true := by
  intro u hu
  simp only [flat4, List.mem_cons, List.not_mem_nil, or_false] at hu
  rcases hu with rfl | rfl | rfl | rfl <;> rfl

set_option maxHeartbeats 8000000 in
theorem l4List_any (x y : Value) (hs : List Int) (ts : List Tw) (lv : Nat) (l : List Int) (w : World) (hx : IL w x hs) (hy : TW w y ts) (h5 : hs.length = 5) (hl : lv < 5) (hn : ts.length ≤ 60) (hlev : lev ts lv (ts.length + 1) (-1) (hs.getD lv 0) = some l) :
    Calls Tryd.prog 73 #[.agg #[x, y], .int .i64 lv] w fun e w' => ∃ v, e = .returned v ∧ w'.ownsRow w.heap.size 28 4 v (lsL ts l).length (flat4 (lsL ts l)) ∧ Below w.heap.size w w' := by
  obtain ⟨i0, hi, hz0, hzs, hzb⟩ := info_parts Tryd.info28
  obtain ⟨ax, cx, rfl, hcx⟩ := hx
  obtain ⟨bx, ox, rfl, hbx, hcell⟩ := hcx (by intro e; simp [e] at h5)
  obtain ⟨ay, cy, rfl, hcy⟩ := hy
  have hh := hcell lv (by omega)
  have hhd : hs.getD lv 0 = hs[lv]'(by omega) := by simp [List.getD_eq_getElem?_getD, show lv < hs.length from by omega]
  rw [hhd] at hlev
  rw [h5]
  have hb0 := below_alloc w (.cells #[.slice (some ⟨bx, ox, none⟩) 5 cx, .slice ay ts.length cy] 26)
  have h1 := (hb0.cell (p := ⟨bx, ox + lv, none⟩) hbx).trans hh
  have X0 := Box.new w #[.slice (some ⟨bx, ox, none⟩) 5 cx, .slice ay ts.length cy] 26
  have hll := lev_len hlev
  clear hcx hcell hh hhd
  generalize hs[lv]'(by omega) = hd at *
  go_enter Tryd.func73, Tryd.ntmps73
  go_wp2
  go_loopw [5, 6] (fun v a wr => ∃ (pre l2 : List Int) (f : Nat) (p z : Int), a = .int .i64 z ∧ lev ts lv f p z = some l2 ∧ l = pre ++ l2 ∧ wr.ownsRow (w.heap.size + 1) 28 4 v (lsL ts pre).length (flat4 (lsL ts pre)) ∧ Box wr w.heap.size [.slice (some ⟨bx, ox, none⟩) 5 cx, .slice ay ts.length cy] ∧ Below w.heap.size w wr) (fun v _ _ => 61 - sliceLen v)
  case atStart => exact ⟨[], l, _, _, _, rfl, hlev, rfl, World.ownsRow_nil _ _ _ _, X0, hb0⟩
  case round =>
    clear X0 hb0 h1 hlev
    obtain ⟨pre, l2, f, p, z, rfl, hlv, hsp, hown, X, hb⟩ := hrel
    have p0 := X.2.1 0 _ rfl
    have p1 := X.2.1 1 _ rfl
    have pl := X.1
    rcases lev_cases hlv with ⟨rfl, rfl⟩ | ⟨f', l', rfl, rfl, hok, hlv2⟩
    · have HE : Hid (lsL ts l = lsL ts pre) := by show _ = _; rw [hsp, List.append_nil]
      clear hlv hsp hi hz0 hzs hzb hcy
      generalize lsL ts pre = L at *
      go_wp2
      go_ret
      exact ⟨_, rfl, by rw [HE.out]; exact owns_lower hown (by omega), hb⟩
    · obtain ⟨hk0, hk1, hk2⟩ := hok
      obtain ⟨j, rfl⟩ := Int.eq_ofNat_of_zero_le hk0
      have hj : j < ts.length := by omega
      have htw : tw ts (j : Int) = ts[j] := by simp [tw, List.getD_eq_getElem?_getD, hj]
      rw [htw] at hk2
      have hnx : nx ts (j : Int) lv = ts[j].next[lv] := by unfold nx; rw [htw]; simp [List.getD_eq_getElem?_getD, hk2]
      rw [hnx] at hlv2
      obtain ⟨b, off, rfl, hbl, hcell⟩ := hcy (by intro e; simp [e] at hj)
      obtain ⟨u, ⟨q0, q1, q2, q3, q4⟩, hil⟩ := hcell j hj
      obtain ⟨an, cn, rfl, hcn⟩ := hil
      obtain ⟨bn, on, rfl, hbn, hnc⟩ := hcn (by intro e; rw [e] at hk2; simp at hk2)
      have hnc2 := hnc lv hk2
      have r0 := (hb.cell (p := ⟨b, off + j * 5, none⟩) hbl).trans q0
      have r1 := (hb.cell (p := ⟨b, off + j * 5 + 1, none⟩) hbl).trans q1
      have r2 := (hb.cell (p := ⟨b, off + j * 5 + 2, none⟩) hbl).trans q2
      have r3 := (hb.cell (p := ⟨b, off + j * 5 + 3, none⟩) hbl).trans q3
      have HPL : Hid (lsL ts (pre ++ [(j : Int)]) = lsL ts pre ++ [itOf ts[j]]) := by show _ = _; unfold lsL; rw [List.map_append]; simp [htw]
      have HSP : Hid (l = (pre ++ [(j : Int)]) ++ l') := by show _ = _; rw [hsp]; simp
      have hpl : (lsL ts pre).length + 1 ≤ 60 := by rw [lsL_len]; have := congrArg List.length hsp; simp at this; omega
      have hz := hb.size
      have hbW : b < wr.heap.size := by omega
      clear hlv hsp hcell hcy hcn hnc htw hnx
      obtain ⟨s, hse⟩ : ∃ s, itOf ts[j] = s := ⟨_, rfl⟩
      have e0 : ts[j].key = s.k := by rw [← hse]; rfl
      have e1 : ts[j].seq = s.n := by rw [← hse]; rfl
      have e2 : ts[j].kind = s.d := by rw [← hse]; rfl
      have e3 : ts[j].val = s.v := by rw [← hse]; rfl
      rw [e0] at r0; rw [e1] at r1; rw [e2] at r2; rw [e3] at r3
      rw [hse] at HPL
      clear e0 e1 e2 e3 hse q0 q1 q2 q3
      obtain ⟨nl, hnl⟩ : ∃ nl, ts[j].next.length = nl := ⟨_, rfl⟩
      obtain ⟨nz, hnz⟩ : ∃ nz, ts[j].next[lv] = nz := ⟨_, rfl⟩
      rw [hnz] at hlv2 hnc2
      rw [hnl] at hk2 q4
      clear hnl hnz
      have hcn4 := cells_new4 wr s
      obtain ⟨L, HL⟩ : ∃ L, Hid (lsL ts pre = L) := ⟨lsL ts pre, rfl⟩
      rw [HL.out] at hown hpl HPL
      obtain ⟨sk, sn, sd, sv⟩ := s
      dsimp only at *
      go_wp2_with (at_builtin; refine wpList_append_own _ rfl _ _ 33 rfl (w.heap.size + 1) 28 i0 (.agg #[.string ⟨#[]⟩, .int .i64 0, .int .i64 0, .string ⟨#[]⟩]) 4 48 Tryd.underlying33 hi hz0 hzs hzb rfl (by decide) _ L.length (flat4 L) rfl (owns_below hown (below_alloc _ _)) ⟨wr.heap.size, 0, none⟩ 1 1 (flat4 [⟨sk, sn, sd, sv⟩]) rfl rfl hcn4 (one4 _) (by unfold maxLen; omega) (by omega) (by simp; omega) ?_; intro v' w3 hown3 hgrow3 _; refine Stop.go ?_)
      have hBb : Below (w.heap.size + 1) wr w3 := ((Below.refl _ _).alloc (by omega) _).grown hgrow3 (by simp; omega) (owns_ge hown)
      have hB3 : Below w.heap.size w w3 := hb.trans (hBb.mono (by omega))
      have X3 := X.under hBb (by omega)
      have hO3 : w3.ownsRow (w.heap.size + 1) 28 4 v' (L ++ [(⟨sk, sn, sd, sv⟩ : It)]).length (flat4 (L ++ [(⟨sk, sn, sd, sv⟩ : It)])) := by rw [List.length_append, flat4_append]; exact hown3
      have hsl : sliceLen v' = L.length + 1 := by
        rcases hown3.2 with ⟨_, h0⟩ | ⟨g, cp, cur, rfl, _⟩
        · simp at h0
        · rfl
      have hs0 : sliceLen u5 = L.length := by
        rcases hown.2 with ⟨rfl, h0⟩ | ⟨g, cp, cur, rfl, _⟩
        · exact h0.symm
        · rfl
      have z4 := (hB3.cell (p := ⟨b, off + j * 5 + 4, none⟩) hbl).trans q4
      have zn := (hB3.cell (p := ⟨bn, on + lv, none⟩) hbn).trans hnc2
      have s0 := X3.2.1 0 _ rfl
      have s1 := X3.2.1 1 _ rfl
      have sl := X3.1
      have HSL : Hid (sliceLen v' = L.length + 1) := hsl
      have HS0 : Hid (sliceLen u5 = L.length) := hs0
      have HO : Hid _ := hO3
      clear hBb X hgrow3 hown hown3 hb p0 p1 pl r0 r1 r2 r3 q4 hnc2 hcn4 hsl hs0 hO3 hi hz0 hzs hzb
      unfold Stop
      go_wp2
      go_roundw
      case rel => exact ⟨pre ++ [(j : Int)], l', f', (j : Int), nz, rfl, hlv2, HSP.out, by rw [HPL.out]; exact HO.out, X3, hB3⟩
      case measure => have := HSL.out; have := HS0.out; simp; omega
end Go.Proofs.YtdaldkcildbcmaaDoor
