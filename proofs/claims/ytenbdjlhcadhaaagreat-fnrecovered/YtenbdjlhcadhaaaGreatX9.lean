/-
  EditBytes: the specification's side.
-/
import Derived.Test.YtenbdjlhcadhaaaGreatU9
namespace Go.Proofs.YtenbdjlhcadhaaaGreat
open Go.RowKit
set_option linter.unusedVariables false
set_option maxRecDepth 100000

set_option maxHeartbeats 4000000 in
theorem specEditBytes_any (nx sq : Int) (q v : Value) (dr : List Int) (l : List Mt) (w : World) (hq : IL w q dr) (hv : IR w v l) (hd : dr.length ≤ 1048576) (hn : l.length ≤ 1048576) (hs : ∀ i (h : i < l.length), l[i].k.size ≤ 1048576 ∧ l[i].v.size ≤ 1048576) :
    Calls Tryz.prog 6 #[.agg #[.int .i64 nx, .int .i64 sq, q, v]] w fun e w' => e = .returned (.tuple #[.string (edT nx sq dr l), .bool (edB nx sq dr l)]) ∧ Below w.heap.size w w' := by
  have hB := below_alloc w (.cells #[.int .i64 nx, .int .i64 sq, q, v] 26)
  have X := Box.new w #[.int .i64 nx, .int .i64 sq, q, v] 26
  have K := l9Edit_any nx sq q v dr l _ (hq.below hB) (hv.below hB) hd hn hs
  have HP : Hid (edT nx sq dr l = (if goodE nx sq dr l && decide (((edL nx sq dr l).length : Int) ≤ 1000) then tx (edL nx sq dr l) else ⟨#[]⟩) ∧ edB nx sq dr l = (goodE nx sq dr l && decide (((edL nx sq dr l).length : Int) ≤ 1000))) := ⟨rfl, rfl⟩
  have HQ : Hid (goodE nx sq dr l = true → (1 ≤ nx ∧ nx ≤ 100001) ∧ (0 ≤ sq ∧ sq ≤ 1000000000) ∧ (dr.length ≤ 30 ∧ goodDr dr = true) ∧ (l.length ≤ 30 ∧ goodMs l = true)) := goodE_parts
  have HE : Hid (edL nx sq dr l = varL nx.toNat ++ varL sq.toNat ++ nmL dr dr.length ++ mtL l l.length) := rfl
  generalize edT nx sq dr l = TT at *
  generalize edB nx sq dr l = BB at *
  generalize goodE nx sq dr l = g at *
  have hq' := hq
  have hv' := hv
  obtain ⟨qa, qc, rfl, _⟩ := hq
  obtain ⟨a, cap, rfl, _⟩ := hv
  clear hs
  go_enter Tryz.func6, Tryz.ntmps6
  go_wp2_with fail
  refine K.mono ?_
  rintro e w1 ⟨rfl, hb1⟩
  replace hB := below_then hB hb1
  replace X := X.below hb1
  clear K hb1
  cases g
  · obtain ⟨rfl, rfl⟩ : TT = ⟨#[]⟩ ∧ BB = false := ⟨by rw [HP.out.1]; rfl, by rw [HP.out.2]; rfl⟩
    clear HP HQ HE
    go_wp2
    exact bodyPost_ret (v := .tuple #[.string ⟨#[]⟩, .bool false]) (by simp [results, Tryz.results6, go_sem]) rfl ⟨rfl, hB⟩
  obtain ⟨h1, h2, ⟨h3, h4⟩, h5, h6⟩ := HQ.out (by trivial)
  obtain ⟨n, rfl⟩ := Int.eq_ofNat_of_zero_le (show 0 ≤ nx from by omega)
  obtain ⟨t, rfl⟩ := Int.eq_ofNat_of_zero_le (show 0 ≤ sq from by omega)
  have KB := fun w h1' h2' => l9Bytes_any n t (.slice qa dr.length qc) (.slice a l.length cap) dr l w h1' h2' (by omega) (by omega) h3 h4 h5 h6
  have hEz := tx_size (edL n t dr l)
  have z : (tx (edL n t dr l)).size ≤ 1604 := by
    rw [hEz, HE.out]
    simp only [List.length_append]
    rw [show ((n : Int)).toNat = n from rfl, show ((t : Int)).toNat = t from rfl]
    have := nmL_len h4 h3 _ (Nat.le_refl _)
    have := mtL_len h6 h5 _ (Nat.le_refl _)
    have := var_small n (by omega)
    have := var_seq t (by omega)
    omega
  clear HQ HE h1 h2 h3 h4 h5 h6
  generalize edL n t dr l = EL at *
  have HZ : Hid ((tx EL).size = EL.length) := hEz
  clear hEz
  generalize tx EL = T at *
  obtain ⟨hp, p0, p1, p2, p3, _⟩ := X.e4
  go_wp2_with fail
  refine (KB _ (hq'.below hB) (hv'.below hB)).mono ?_
  rintro e w2 ⟨rfl, hb2⟩
  replace hB := below_then hB hb2
  replace X := X.below hb2
  clear hb2 p0 p1 p2 p3 hp
  by_cases hle : (T.size : Int) ≤ 1000
  · have HD : decide ((EL.length : Int) ≤ 1000) = true := decide_eq_true (by rw [← HZ.out]; exact hle)
    obtain ⟨hT, rfl⟩ : TT = T ∧ BB = true := ⟨by rw [HP.out.1, HD]; rfl, by rw [HP.out.2, HD]; rfl⟩
    subst hT
    obtain ⟨hp, p0, p1, p2, p3, _⟩ := X.e4
    clear HP HZ HD
    go_wp2_with fail
    refine (KB _ (hq'.below hB) (hv'.below hB)).mono ?_
    rintro e w3 ⟨rfl, hb3⟩
    replace hB := below_then hB hb3
    clear hb3 p0 p1 p2 p3 hp KB X hq' hv'
    go_wp2
    exact bodyPost_ret (v := .tuple #[.string TT, .bool true]) (by simp [results, Tryz.results6, go_sem]) rfl ⟨rfl, hB⟩
  · have HD : decide ((EL.length : Int) ≤ 1000) = false := decide_eq_false (by rw [← HZ.out]; exact hle)
    obtain ⟨rfl, rfl⟩ : TT = ⟨#[]⟩ ∧ BB = false := ⟨by rw [HP.out.1, HD]; rfl, by rw [HP.out.2, HD]; rfl⟩
    clear HP HZ HD KB X hq' hv'
    go_wp2
    exact bodyPost_ret (v := .tuple #[.string ⟨#[]⟩, .bool false]) (by simp [results, Tryz.results6, go_sem]) rfl ⟨rfl, hB⟩
end Go.Proofs.YtenbdjlhcadhaaaGreat
