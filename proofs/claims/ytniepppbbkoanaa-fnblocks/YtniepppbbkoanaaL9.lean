/-
  Reading a block: spec.l6Read, spec.ReadBlock.
-/
import Derived.Test.YtniepppbbkoanaaL8
import Derived.Test.YtniepppbbkoanaaY2
namespace Go.Proofs.Ytniepppbbkoanaa
open Go.RowKit
set_option linter.unusedVariables false
set_option maxRecDepth 100000

/-- Where the reading of a run's block stands. -/
def Stand (s : ByteArray) (acc : List It) (key body : ByteArray) : Prop :=
  ∀ l, goodR l = true → l.length ≤ 40 → blkL l = bl s → acc.length ≤ l.length ∧ acc = l.take acc.length ∧ bl body = restL l acc.length ∧ bl key = ahead l acc.length
theorem stand_start (s : ByteArray) (h : tlOk s = true) : Stand s [] ⟨#[]⟩ (s.extract 0 (fromN (bl s))) := by
  intro l hg hl e
  have hp := blk_parts (l := l) (by omega)
  rw [e] at hp
  refine ⟨Nat.zero_le _, by simp, ?_, rfl⟩
  rw [List.length_nil, rest_zero, bl_to, hp.2, ← e, blk_items]
theorem tail_of (s : ByteArray) {l : List It} (hg : goodR l = true) (hl : l.length ≤ 40) (e : blkL l = bl s) : tlOk s = true := by
  have hp := blk_parts (l := l) (by omega)
  rw [e] at hp
  have hs := blk_sum l
  rw [e, bl_len] at hs
  unfold tlOk sumOk
  rw [hp.1, Bool.true_and, decide_eq_true_eq]
  apply bl_inj
  rw [bl_tx, bl_to, hs.1, bl_from, hs.2]
theorem stand_next {s : ByteArray} {acc : List It} {key body : ByteArray} (h : Stand s acc key body) (hb : body.size ≠ 0) {l : List It} (hg : goodR l = true) (hl : l.length ≤ 40) (e : blkL l = bl s) :
    rdSok body key = true ∧ rdIt (bl body) (bl key) = l.getD acc.length default ∧ acc.length < l.length ∧ (bl body).drop (rdN (bl body)) = restL l (acc.length + 1) := by
  obtain ⟨h1, h2, h3, h4⟩ := h l hg hl e
  have hlt : acc.length < l.length := by
    rcases Nat.lt_or_ge acc.length l.length with h5 | h5
    · exact h5
    · exfalso
      have h6 : acc.length = l.length := by omega
      rw [h6, rest_end] at h3
      apply hb
      rw [← bl_len, h3]; rfl
  obtain ⟨b1, b2, b3, b4, b5⟩ := rd_back (goodR_at hg hlt) (restL l (acc.length + 1))
  rw [← rest_step l _ hlt, ← h3] at b1 b2 b3 b4 b5
  rw [← h4] at b1 b2
  refine ⟨?_, b2, hlt, ?_⟩
  · unfold rdSok
    rw [b1, decide_eq_true b4, decide_eq_true b5]; rfl
  · rw [b3, h3, rest_step l _ hlt, List.drop_left]
theorem stand_step {s : ByteArray} {acc : List It} {key body : ByteArray} (h : Stand s acc key body) (hb : body.size ≠ 0) :
    Stand s (acc ++ [rdIt (bl body) (bl key)]) (rdIt (bl body) (bl key)).k (body.extract (rdN (bl body)) body.size) := by
  intro l hg hl e
  obtain ⟨h1, h2, h3, h4⟩ := h l hg hl e
  obtain ⟨g1, g2, g3, g4⟩ := stand_next h hb hg hl e
  have hlen : (acc ++ [rdIt (bl body) (bl key)]).length = acc.length + 1 := by simp
  rw [hlen]
  refine ⟨by omega, ?_, ?_, ?_⟩
  · rw [List.take_succ_eq_append_getElem g3, ← h2, g2, getD_at l _ g3]
  · rw [bl_from, g4]
  · rw [ahead_succ, g2]
theorem stand_stop {s : ByteArray} {acc : List It} {key body : ByteArray} (h : Stand s acc key body) (hb : body.size ≠ 0) (hno : rdSok body key = false) : RdRes (bl s) [] false := by
  refine .inr ⟨rfl, rfl, fun l hg hl e => ?_⟩
  have := (stand_next h hb hg hl e).1
  rw [hno] at this; cases this
/-- What the last look says. -/
theorem stand_end {s : ByteArray} {acc : List It} {key body : ByteArray} (h : Stand s acc key body) (hend : body.size = 0 ∨ 40 < acc.length) :
    RdRes (bl s) (if okBlk acc && decide (tx (blkL acc) = s) then acc else []) (okBlk acc && decide (tx (blkL acc) = s)) := by
  cases hc : okBlk acc && decide (tx (blkL acc) = s) with
  | true =>
    rw [if_pos rfl]
    rw [Bool.and_eq_true, decide_eq_true_eq] at hc
    obtain ⟨h1, h2⟩ := hc
    unfold okBlk at h1
    rw [Bool.and_eq_true, decide_eq_true_eq] at h1
    exact .inl ⟨rfl, h1.1, h1.2, by rw [← h2, bl_tx]⟩
  | false =>
    rw [if_neg (by simp)]
    refine .inr ⟨rfl, rfl, fun l hg hl e => ?_⟩
    obtain ⟨h1, h2, h3, h4⟩ := h l hg hl e
    have hal : acc = l := by
      rcases hend with h5 | h5
      · have h6 : bl body = [] := List.eq_nil_of_length_eq_zero (by rw [bl_len]; exact h5)
        rw [h6] at h3
        have h7 := rest_nil h1 h3.symm
        rw [h2, h7, List.take_length]
      · omega
    subst hal
    have hB : okBlk acc = true := by unfold okBlk; rw [hg, decide_eq_true hl]; rfl
    have hF : tx (blkL acc) = s := bl_inj (by rw [bl_tx]; exact e)
    rw [hB, decide_eq_true hF] at hc
    cases hc

/-- What reading a block answers and leaves. -/
def RdPost (s : ByteArray) (w : World) (e : Ending) (w' : World) : Prop := ∃ l ok v, e = .returned (.tuple #[v, .bool ok]) ∧ RdRes (bl s) l ok ∧ w'.ownsRow w.heap.size 35 4 v l.length (flat4 l) ∧ Below w.heap.size w w'
theorem RdPost.mk {s : ByteArray} {w w' : World} {l : List It} {ok : Bool} {v : Value} (h1 : RdRes (bl s) l ok) (h2 : w'.ownsRow w.heap.size 35 4 v l.length (flat4 l)) (h3 : Below w.heap.size w w') : RdPost s w (.returned (.tuple #[v, .bool ok])) w' := ⟨l, ok, v, rfl, h1, h2, h3⟩
theorem owns_below_lt {w : World} {base : Nat} {e : TypeId} {size : Nat} {v : Value} {n : Nat} {xs : List Value} (h : w.ownsRow base e size v n xs) : ∀ b, v.ownBlock = some b → b < w.heap.size := by
  intro b hb
  rcases h.2 with ⟨rfl, _⟩ | ⟨g, cap, cur, rfl, _, hh, _⟩
  · simp [Value.ownBlock] at hb
  · simp only [Value.ownBlock, Option.some.injEq] at hb
    subst hb
    exact (Array.getElem?_eq_some_iff.1 hh).1
theorem box_grown {X Y : World} {row : Option Nat} {b : Nat} {vs : List Value} (h : Box X b vs) (hg : X.grownBy Y row) (hr : some b ≠ row) : Box Y b vs := by
  obtain ⟨h1, h2, h3⟩ := h
  have he : Y.heap[b]? = X.heap[b]? := hg.block b h1 hr
  refine ⟨Nat.lt_of_lt_of_le h1 hg.size, fun j u hu => ?_, fun j => ?_⟩
  · rw [← h2 j u hu]; simp [World.cell?, he]
  · rw [← h3 j]; simp [World.frozen?, he]

set_option maxHeartbeats 8000000 in
theorem l6Read_any (s : ByteArray) (w : World) (hs : s.size ≤ 1048576) :
    Calls Try.prog 64 #[.string s] w fun e w' => RdPost s w e w' := by
  obtain ⟨i0, hi, hz0, hzs, hzb⟩ := info_parts Try.info35
  cases hok : tlOk s with
  | false =>
    have hres : RdRes (bl s) [] false := .inr ⟨rfl, rfl, fun l hg hl e => by have := tail_of s hg hl e; rw [hok] at this; cases this⟩
    have K := fun w => l6Tail_no s w hs hok
    clear hok
    go_enter Try.func64, Try.ntmps64
    go_wp2_with fail
    refine (K _).mono ?_
    rintro e w1 ⟨rfl, hb1⟩
    go_wp2
    refine bodyPost_ret (v := .tuple #[.slice none 0 0, .bool false]) ?_ rfl (RdPost.mk (l := []) hres (World.ownsRow_nil _ _ _ _) hb1)
    simp [results, Try.results64, go_sem]
  | true =>
    have K := fun w => l6Tail_yes s w hs hok
    have HS0 : Hid (Stand s [] ⟨#[]⟩ (s.extract 0 (fromN (bl s)))) := stand_start s hok
    have hsz0 : (s.extract 0 (fromN (bl s))).size ≤ s.size := by rw [ByteArray.size_extract]; omega
    clear hok
    generalize s.extract 0 (fromN (bl s)) = B0 at *
    generalize many (bl s) = m at *
    generalize plcs s m = PZ at *
    go_enter Try.func64, Try.ntmps64
    go_wp2_with fail
    refine (K _).mono ?_
    rintro e w1 ⟨pv, rfl, _, hb1⟩
    clear K
    go_wp2
    go_loopw [4, 7, 8] (fun bv ov kv wr => ∃ (acc : List It) (key body : ByteArray), bv = .string body ∧ kv = .string key ∧ wr.ownsRow w.heap.size 35 4 ov acc.length (flat4 acc) ∧ acc.length ≤ 41 ∧ key.size + body.size ≤ s.size ∧ (∀ i (h : i < acc.length), acc[i].k.size ≤ 1048576 ∧ acc[i].v.size ≤ 1048576) ∧ Stand s acc key body ∧ Below w.heap.size w wr) (fun bv _ _ _ => strLen bv)
    case atStart => exact ⟨[], ⟨#[]⟩, B0, rfl, rfl, World.ownsRow_nil _ _ _ _, by simp, by show 0 + B0.size ≤ s.size; omega, by simp, HS0.out, hb1⟩
    case round =>
      clear HS0 hsz0 hb1
      obtain ⟨acc, key, body, rfl, rfl, hown, hal, hsz, hits, hst, hb⟩ := hrel
      have HST : Hid (Stand s acc key body) := hst
      clear hst
      have hz := hb.size
      by_cases hb0 : body.size = 0
      · obtain rfl := empty_of_size hb0
        have hl0 : (0 : Int) < (⟨#[]⟩ : ByteArray).size ↔ False := by simp [ByteArray.size]
        clear hb0
        by_cases h40 : acc.length ≤ 40
        · skip
          have HRE : Hid (RdRes (bl s) (if okBlk acc && decide (tx (blkL acc) = s) then acc else []) (okBlk acc && decide (tx (blkL acc) = s))) := stand_end HST.out (.inl rfl)
          have HOB : Hid (okBlk acc = (goodR acc && decide (acc.length ≤ 40))) := rfl
          have hir := IR_of_owns hown rfl
          obtain ⟨av, cap, rfl⟩ : ∃ a c, u7 = .slice a acc.length c := by obtain ⟨a, c, h, _⟩ := hir; exact ⟨a, c, h⟩
          have G := fun w h => specRun_any (.slice av acc.length cap) acc w h (by omega) hits
          clear HST hits hi hz0 hzs hzb
          cases hg : goodR acc with
          | false =>
            rw [hg] at HOB G
            rw [HOB.out] at HRE
            generalize tx (blkL acc) = T at *
            clear HOB hg hown
            replace HRE : Hid (RdRes (bl s) [] false) := HRE.out
            go_wp2_with fail
            refine (G _ hir).mono ?_
            rintro e w5 ⟨rfl, hb5⟩
            have hB5 := below_then hb hb5
            clear G hir hb hb5
            go_wp2
            refine bodyPost_ret (v := .tuple #[.slice none 0 0, .bool false]) ?_ rfl (RdPost.mk (l := []) HRE.out (World.ownsRow_nil _ _ _ _) hB5)
            simp [results, Try.results64, go_sem]
          | true =>
            have KB := fun w h => l6Block_any (.slice av acc.length cap) acc w h h40 hg
            rw [hg] at HOB G
            rw [HOB.out, decide_eq_true h40] at HRE
            clear HOB hg
            by_cases hT : tx (blkL acc) = s
            · rw [decide_eq_true hT] at HRE
              rw [hT] at KB
              replace HRE : Hid (RdRes (bl s) acc true) := HRE.out
              clear hT
              go_wp2_with fail
              refine (G _ hir).mono ?_
              rintro e w5 ⟨rfl, hb5⟩
              have hB5 := below_then hb hb5
              have hir5 := hir.below hb5
              have hown5 := owns_below hown hb5
              clear G hir hb hb5 hown
              go_wp2_with fail
              refine (KB _ hir5).mono ?_
              rintro e w6 ⟨rfl, hb6⟩
              have hB6 := below_then hB5 hb6
              have hown6 := owns_below hown5 hb6
              clear KB hir5 hB5 hb6 hown5
              go_wp2
              refine bodyPost_ret (v := .tuple #[.slice av acc.length cap, .bool true]) ?_ rfl (RdPost.mk HRE.out hown6 hB6)
              simp [results, Try.results64, go_sem]
            · rw [decide_eq_false hT] at HRE
              replace HRE : Hid (RdRes (bl s) [] false) := HRE.out
              have hT2 : ((tx (blkL acc)).toList == s.toList) = false := by
                rw [Bool.eq_false_iff]
                intro h
                apply hT
                have := eq_of_beq h
                rw [ByteArray.toList_eq, ByteArray.toList_eq] at this
                exact bl_inj this
              clear hT hown
              generalize tx (blkL acc) = T at *
              go_wp2_with fail
              refine (G _ hir).mono ?_
              rintro e w5 ⟨rfl, hb5⟩
              have hB5 := below_then hb hb5
              have hir5 := hir.below hb5
              clear G hir hb hb5
              go_wp2_with fail
              refine (KB _ hir5).mono ?_
              rintro e w6 ⟨rfl, hb6⟩
              have hB6 := below_then hB5 hb6
              clear KB hir5 hB5 hb6
              go_wp2
              refine bodyPost_ret (v := .tuple #[.slice none 0 0, .bool false]) ?_ rfl (RdPost.mk (l := []) HRE.out (World.ownsRow_nil _ _ _ _) hB6)
              simp [results, Try.results64, go_sem]
        · skip
          have HRE : Hid (RdRes (bl s) (if okBlk acc && decide (tx (blkL acc) = s) then acc else []) (okBlk acc && decide (tx (blkL acc) = s))) := stand_end HST.out (.inl rfl)
          have HOB : Hid (okBlk acc = (goodR acc && decide (acc.length ≤ 40))) := rfl
          have hir := IR_of_owns hown rfl
          obtain ⟨av, cap, rfl⟩ : ∃ a c, u7 = .slice a acc.length c := by obtain ⟨a, c, h, _⟩ := hir; exact ⟨a, c, h⟩
          have G := fun w h => specRun_any (.slice av acc.length cap) acc w h (by omega) hits
          clear HST hits hi hz0 hzs hzb
          cases hg : goodR acc with
          | false =>
            rw [hg] at HOB G
            rw [HOB.out] at HRE
            generalize tx (blkL acc) = T at *
            clear HOB hg hown
            replace HRE : Hid (RdRes (bl s) [] false) := HRE.out
            go_wp2_with fail
            refine (G _ hir).mono ?_
            rintro e w5 ⟨rfl, hb5⟩
            have hB5 := below_then hb hb5
            clear G hir hb hb5
            go_wp2
            refine bodyPost_ret (v := .tuple #[.slice none 0 0, .bool false]) ?_ rfl (RdPost.mk (l := []) HRE.out (World.ownsRow_nil _ _ _ _) hB5)
            simp [results, Try.results64, go_sem]
          | true =>
            rw [hg] at HOB G
            rw [HOB.out, decide_eq_false (show ¬ acc.length ≤ 40 from by omega)] at HRE
            generalize tx (blkL acc) = T at *
            clear HOB hg hown
            replace HRE : Hid (RdRes (bl s) [] false) := HRE.out
            go_wp2_with fail
            refine (G _ hir).mono ?_
            rintro e w5 ⟨rfl, hb5⟩
            have hB5 := below_then hb hb5
            clear G hir hb hb5
            go_wp2
            refine bodyPost_ret (v := .tuple #[.slice none 0 0, .bool false]) ?_ rfl (RdPost.mk (l := []) HRE.out (World.ownsRow_nil _ _ _ _) hB5)
            simp [results, Try.results64, go_sem]
      · have hbp : 0 < body.size := by omega
        by_cases h40 : acc.length ≤ 40
        · have KI := fun w => l6Item_any body key w (by omega) (by omega)
          have hN0 : Hid (rdSok body key = false → rdSn body key = 0) := fun h => by unfold rdSn; rw [if_neg (by rw [h]; simp)]
          have hN1 : Hid (rdSok body key = true → rdSn body key = rdN (bl body) ∧ rdSi body key = rdIt (bl body) (bl key)) := fun h => by unfold rdSn rdSi; rw [if_pos h, if_pos h]; exact ⟨rfl, rfl⟩
          obtain ⟨av, cap, rfl⟩ : ∃ a c, u7 = .slice a acc.length c := by obtain ⟨a, c, h, _⟩ := IR_of_owns hown rfl; exact ⟨a, c, h⟩
          cases hsk : rdSok body key with
          | false =>
            have hres : Hid (RdRes (bl s) [] false) := stand_stop HST.out hb0 hsk
            have hn := hN0.out hsk
            rw [hn, show ((0 : Nat) : Int) = 0 from rfl] at KI
            clear hN0 hN1 hn HST hits hown hsk hi hz0 hzs hzb
            generalize rdSi body key = y at *
            obtain ⟨yk, yn, yd, yv⟩ := y
            dsimp only at KI
            go_wp2_with fail
            refine (KI _).mono ?_
            rintro e w2 ⟨rfl, hb2⟩
            have hB2 := (below_then hb hb2).alloc (below_then hb hb2).size (.cells #[.string yk, .int .i64 yn, .int .i64 yd, .string yv] 35)
            clear KI hb2 hb
            go_wp2
            refine bodyPost_ret (v := .tuple #[.slice none 0 0, .bool false]) ?_ rfl (RdPost.mk (l := []) hres.out (World.ownsRow_nil _ _ _ _) hB2)
            simp [results, Try.results64, go_sem]
          | true =>
            obtain ⟨hn, hx⟩ := hN1.out hsk
            rw [hn, hx] at KI
            have hok : rdOk (bl body) (bl key) = true := by
              unfold rdSok at hsk
              rw [Bool.and_eq_true, Bool.and_eq_true] at hsk
              exact hsk.1.1
            have hss := step_size hok
            have hNp := rdN_pos hok
            have hxs := (rdIt_size hok).2
            have HST2 : Hid (Stand s (acc ++ [rdIt (bl body) (bl key)]) (rdIt (bl body) (bl key)).k (body.extract (rdN (bl body)) body.size)) := stand_step HST.out hb0
            rw [List.length_drop, bl_len, bl_len, bl_len] at hss
            rw [bl_len] at hNp hxs
            have hsz2 : (rdIt (bl body) (bl key)).k.size + (body.extract (rdN (bl body)) body.size).size ≤ s.size := by rw [ByteArray.size_extract]; omega
            have hms : (body.extract (rdN (bl body)) body.size).size < body.size := by rw [ByteArray.size_extract]; omega
            have hits2 : ∀ i (h : i < (acc ++ [rdIt (bl body) (bl key)]).length), (acc ++ [rdIt (bl body) (bl key)])[i].k.size ≤ 1048576 ∧ (acc ++ [rdIt (bl body) (bl key)])[i].v.size ≤ 1048576 := by
              intro i h
              by_cases hi2 : i < acc.length
              · rw [List.getElem_append_left hi2]; exact hits i hi2
              · have : i = acc.length := by rw [List.length_append, List.length_singleton] at h; omega
                subst this
                rw [List.getElem_append_right (Nat.le_refl _)]
                simp only [Nat.sub_self, List.getElem_cons_zero]
                omega
            have hN1' : rdN (bl body) ≤ body.size := by omega
            have hNz : ((rdN (bl body) : Int) == 0) = false := by simp; omega
            clear hN0 hN1 hn hx HST hits hsk hok hss hNp hxs hb0
            generalize rdIt (bl body) (bl key) = x at *
            generalize rdN (bl body) = N at *
            obtain ⟨xk, xn, xd, xv⟩ := x
            dsimp only at KI hsz2 HST2 hits2
            go_wp2_with fail
            refine (KI _).mono ?_
            rintro e w2 ⟨rfl, hb2⟩
            have hB2 := below_then hb hb2
            have hown2 := owns_below (owns_below hown hb2) (below_alloc w2 (.cells #[.string xk, .int .i64 xn, .int .i64 xd, .string xv] 35))
            have hzw : w.heap.size ≤ w2.heap.size := hB2.size
            have X2 := (Box.new w2 #[.string xk, .int .i64 xn, .int .i64 xd, .string xv] 35).alloc (.cells #[.string xk, .int .i64 xn, .int .i64 xd, .string xv] 35)
            have hlt7 := owns_below_lt (owns_below hown hb2)
            have hcn := cells_new4 (w2.alloc (.cells #[.string xk, .int .i64 xn, .int .i64 xd, .string xv] 35)) ⟨xk, xn, xd, xv⟩
            simp only [World.size_alloc] at hcn
            clear KI hown hb hb2
            have hnn : ∀ b, some b = Value.ownBlock (.slice av acc.length cap) → b < w2.heap.size := fun b h => hlt7 b h.symm
            go_wp2_with (at_builtin; refine wpList_append_own _ rfl _ _ 23 rfl w.heap.size 35 i0 (.agg #[.string ⟨#[]⟩, .int .i64 0, .int .i64 0, .string ⟨#[]⟩]) 4 48 Try.underlying23 hi hz0 hzs hzb rfl (by decide) _ acc.length (flat4 acc) rfl (owns_below hown2 (below_alloc _ _)) ⟨w2.heap.size + 1, 0, none⟩ 1 1 (flat4 [⟨xk, xn, xd, xv⟩]) rfl rfl hcn (one4 _) (by unfold maxLen; omega) (by omega) (by simp; omega) ?_; intro v' w3 hown3 hgrow3 _; have X3 := box_grown X2 hgrow3 (fun h => by have := hnn _ h; omega); obtain ⟨_, y0, y1, y2, y3⟩ := Box.c4 X3)
            go_roundw
            case rel =>
              refine ⟨acc ++ [⟨xk, xn, xd, xv⟩], xk, body.extract N body.size, rfl, rfl, ?_, by simp; omega, hsz2, hits2, HST2.out, ?_⟩
              · rw [List.length_append, flat4_append]; exact hown3
              · exact ((hB2.alloc hzw _).alloc (by simp; omega) _).grown hgrow3 (by simp; omega) (owns_ge hown2)
            case measure => exact hms
        · have hend : 40 < acc.length := by omega
          have HRE : Hid (RdRes (bl s) (if okBlk acc && decide (tx (blkL acc) = s) then acc else []) (okBlk acc && decide (tx (blkL acc) = s))) := stand_end HST.out (.inr hend)
          have HOB : Hid (okBlk acc = (goodR acc && decide (acc.length ≤ 40))) := rfl
          have hir := IR_of_owns hown rfl
          obtain ⟨av, cap, rfl⟩ : ∃ a c, u7 = .slice a acc.length c := by obtain ⟨a, c, h, _⟩ := hir; exact ⟨a, c, h⟩
          have G := fun w h => specRun_any (.slice av acc.length cap) acc w h (by omega) hits
          clear HST hits hi hz0 hzs hzb
          cases hg : goodR acc with
          | false =>
            rw [hg] at HOB G
            rw [HOB.out] at HRE
            generalize tx (blkL acc) = T at *
            clear HOB hg hown
            replace HRE : Hid (RdRes (bl s) [] false) := HRE.out
            go_wp2_with fail
            refine (G _ hir).mono ?_
            rintro e w5 ⟨rfl, hb5⟩
            have hB5 := below_then hb hb5
            clear G hir hb hb5
            go_wp2
            refine bodyPost_ret (v := .tuple #[.slice none 0 0, .bool false]) ?_ rfl (RdPost.mk (l := []) HRE.out (World.ownsRow_nil _ _ _ _) hB5)
            simp [results, Try.results64, go_sem]
          | true =>
            rw [hg] at HOB G
            rw [HOB.out, decide_eq_false (show ¬ acc.length ≤ 40 from by omega)] at HRE
            generalize tx (blkL acc) = T at *
            clear HOB hg hown
            replace HRE : Hid (RdRes (bl s) [] false) := HRE.out
            go_wp2_with fail
            refine (G _ hir).mono ?_
            rintro e w5 ⟨rfl, hb5⟩
            have hB5 := below_then hb hb5
            clear G hir hb hb5
            go_wp2
            refine bodyPost_ret (v := .tuple #[.slice none 0 0, .bool false]) ?_ rfl (RdPost.mk (l := []) HRE.out (World.ownsRow_nil _ _ _ _) hB5)
            simp [results, Try.results64, go_sem]

theorem specRead_any (s : ByteArray) (w : World) (hs : s.size ≤ 1048576) :
    Calls Try.prog 31 #[.string s] w fun e w' => RdPost s w e w' := by
  go_enter Try.func31, Try.ntmps31
  go_wp2_with fail
  refine (l6Read_any s _ hs).mono ?_
  rintro e w1 ⟨l, ok, v, rfl, hres, hown, hb1⟩
  go_wp2
  refine bodyPost_ret (v := .tuple #[v, .bool ok]) ?_ rfl (RdPost.mk hres hown hb1)
  simp [results, Try.results31, go_sem]
end Go.Proofs.Ytniepppbbkoanaa
