/-
  spec.l1Do whatever the step.
-/
import Derived.Test.YtbgemebpfcbloaaZ5
import Derived.Test.YtbgemebpfcbloaaZm
import Derived.Test.YtbgemebpfcbloaaZ11
import Derived.Test.YtbgemebpfcbloaaZ12
import Derived.Test.YtbgemebpfcbloaaZ13
namespace Go.Proofs.Ytbgemebpfcbloaa
open Go.RowKit Go.Maps
set_option linter.unusedVariables false
set_option maxRecDepth 100000

theorem l1Do_any (g1 c1 g2 c2 g3 c3 : Nat) (bl lv sf : List (ByteArray × Int)) (r k : Int) (base : Nat) (nm ot da : ByteArray) (kp : Int) (w : World) (hM : MadeS base w g1 c1 g2 c2 g3 c3 bl lv sf) (hbase : base ≤ w.heap.size) (hg : goodD bl lv sf r = true) (hnm : nm.size ≤ 1048576) (hot : ot.size ≤ 1048576) (hda : da.size ≤ 1048576) :
    Calls Try.prog 56 #[.agg #[.slice (some ⟨g1, 0, none⟩) bl.length c1, .slice (some ⟨g2, 0, none⟩) lv.length c2, .slice (some ⟨g3, 0, none⟩) sf.length c3, .int .i64 r], .agg #[.int .i64 k, .string nm, .string ot, .string da, .int .i64 kp]] w fun e w' => (∃ a1 n1 d1 a2 n2 d2 a3 n3 d3, e = .returned (.tuple #[.agg #[.slice a1 n1 d1, .slice a2 n2 d2, .slice a3 n3 d3, .int .i64 r], .int .i64 (refuse k nm ot da kp bl lv sf r)]) ∧
      (refuse k nm ot da kp bl lv sf r = 0 → Made base w' (.slice a1 n1 d1) (.slice a2 n2 d2) (.slice a3 n3 d3) (nB k nm da kp bl lv) (nL k nm ot bl lv sf) (nS k lv sf))) ∧ Chg (fun b => b = g1 ∨ w.heap.size ≤ b) w w' := by
  cases hS : goodS k nm ot da kp with
  | false =>
    have hc : refuse k nm ot da kp bl lv sf r = 1 := by simp [refuse, hS]
    rw [hc]
    have key : Calls Try.prog 56 #[.agg #[.slice (some ⟨g1, 0, none⟩) bl.length c1, .slice (some ⟨g2, 0, none⟩) lv.length c2, .slice (some ⟨g3, 0, none⟩) sf.length c3, .int .i64 r], .agg #[.int .i64 k, .string nm, .string ot, .string da, .int .i64 kp]] w fun e w' => e = .returned (.tuple #[.agg #[.slice (some ⟨g1, 0, none⟩) bl.length c1, .slice (some ⟨g2, 0, none⟩) lv.length c2, .slice (some ⟨g3, 0, none⟩) sf.length c3, .int .i64 r], .int .i64 1]) ∧ Below w.heap.size w w' := by
      rcases kinds k with rfl | rfl | rfl | rfl | rfl | rfl | rfl | rfl | ⟨k1, k2, k3, k4, k5, k6, k7, k8⟩
      · exact bad_1 g1 c1 g2 c2 g3 c3 bl lv sf r nm ot da kp w hnm hot hda hS
      · exact bad_2 g1 c1 g2 c2 g3 c3 bl lv sf r nm ot da kp w hnm hot hda hS
      · exact bad_3 g1 c1 g2 c2 g3 c3 bl lv sf r nm ot da kp w hnm hot hda hS
      · exact bad_4 g1 c1 g2 c2 g3 c3 bl lv sf r nm ot da kp w hnm hot hda hS
      · exact bad_5 g1 c1 g2 c2 g3 c3 bl lv sf r nm ot da kp w hnm hot hda hS
      · exact bad_6 g1 c1 g2 c2 g3 c3 bl lv sf r nm ot da kp w hnm hot hda hS
      · exact bad_7 g1 c1 g2 c2 g3 c3 bl lv sf r nm ot da kp w hnm hot hda hS
      · exact bad_8 g1 c1 g2 c2 g3 c3 bl lv sf r nm ot da kp w hnm hot hda hS
      · exact bad_x g1 c1 g2 c2 g3 c3 bl lv sf r k nm ot da kp w hnm hot hda k1 k2 k3 k4 k5 k6 k7 k8
    exact key.mono fun e w' ⟨he, hb⟩ => ⟨⟨_, _, _, _, _, _, _, _, _, he, fun h => by cases h⟩, Chg.of_below hb⟩
  | true =>
    rcases kinds k with rfl | rfl | rfl | rfl | rfl | rfl | rfl | rfl | ⟨k1, k2, k3, k4, k5, k6, k7, k8⟩
    · exact dg_1 g1 c1 g2 c2 g3 c3 bl lv sf r base nm ot da kp w hM hbase hg hnm hot hda hS
    · exact dg_2 g1 c1 g2 c2 g3 c3 bl lv sf r base nm ot da kp w hM hbase hg hnm hot hda hS
    · exact dg_3 g1 c1 g2 c2 g3 c3 bl lv sf r base nm ot da kp w hM hbase hg hnm hot hda hS
    · exact dg_4 g1 c1 g2 c2 g3 c3 bl lv sf r base nm ot da kp w hM hbase hg hnm hot hda hS
    · exact dg_5 g1 c1 g2 c2 g3 c3 bl lv sf r base nm ot da kp w hM hbase hg hnm hot hda hS
    · exact dg_6 g1 c1 g2 c2 g3 c3 bl lv sf r base nm ot da kp w hM hbase hg hnm hot hda hS
    · exact dg_7 g1 c1 g2 c2 g3 c3 bl lv sf r base nm ot da kp w hM hbase hg hnm hot hda hS
    · exact dg_8 g1 c1 g2 c2 g3 c3 bl lv sf r base nm ot da kp w hM hbase hg hnm hot hda hS
    · exfalso
      simp [goodS, kindOk, k1, k2, k3, k4, k5, k6, k7, k8] at hS
end Go.Proofs.Ytbgemebpfcbloaa
