/-
  Leads compared, and sorted.
-/
import Derived.Test.YtapfhhmimkkhnaaGreatCS
import Derived.Deep.RegionHeld3
import Derived.Shelf.SlSortCmp.WholeK
import Derived.Shelf.Lay
import Derived.Shelf.SlGeneric
import Derived.Ground.SlsfProg
import Derived.Sort.OwnSorted
namespace Go.Proofs
open Go.Shelf Go.RowKit Go.Lib Go.Sort
namespace YtapfhhmimkkhnaaGreat
open Go.Maps
set_option maxHeartbeats 4000000
set_option linter.unusedVariables false
set_option maxRecDepth 100000
theorem compareLeads_any (x y:Ld) (W:World):Calls Tryz.prog 35 #[.agg #[x.t,x.n],.agg #[y.t,y.n]] W fun e w'=>e= .returned (.int .i64 (cmpL x y))∧∃q os',w'=grow (W.drewN q) os':=by
 have K1:=fun w=>cmpI_any x.t y.t w;have K2:=fun w=>cmpI_any x.n y.n w;have HC:Hid (cmpL x y=if cmp3 x.t y.t=0 then cmp3 x.n y.n else cmp3 x.t y.t):=rfl;obtain⟨c,HCc⟩:∃c,Hid (cmpL x y=c):=⟨cmpL x y,rfl⟩;rw [HCc.out] at HC ⊢;generalize cmp3 x.t y.t=r1 at*;generalize cmp3 x.n y.n=r2 at*;obtain⟨xt,xn⟩:=x;obtain⟨yt,yn⟩:=y;dsimp only at*;obtain⟨W0,hW0⟩:∃W0,W0=(W.alloc (.cells #[xt,xn] 34)).alloc (.cells #[yt,yn] 34):=⟨_,rfl⟩;have A:Box W0 W.heap.size [xt,xn]:=by rw [hW0];exact (Box.new W #[xt,xn] 34).alloc _
 have B:Box W0 (W.heap.size+1) [yt,yn]:=by
  rw [hW0];have:=Box.new (W.alloc (.cells #[xt,xn] 34)) #[yt,yn] 34;simpa using this
 go_enter Tryz.func35,Tryz.ntmps35;go_wp2_with fail;rw [←hW0];have HW0:Hid (W0=(W.alloc (.cells #[xt,xn] 34)).alloc (.cells #[yt,yn] 34)):=hW0;clear hW0;have A1:Box W0.drew W.heap.size [xt,xn]:=A.below (Below.refl _ _).drew;have B1:Box W0.drew (W.heap.size+1) [yt,yn]:=B.below (Below.refl _ _).drew;refine wp_region_held_drew (S:=fun w'=>Box w' W.heap.size [xt,xn]∧Box w' (W.heap.size+1) [yt,yn]) (by kernel_rfl) ⟨A1,B1⟩ (fun zc_=> ?_);refine tkH 0 (.pointer (some ⟨W.heap.size,0,none⟩)) rfl ?_ ?_
 ·intro wx hSw;clear hSw zc_;go_simp
 simp only [Act.put,sA_,sB_,sC_];refine tkH 1 (.int .i64 xt) rfl ?_ ?_
 ·intro wx hSw;have e:=hSw.1.2.1 0 _ rfl;clear zc_ hSw;go_simp
 simp only [Act.put,sA_,sB_,sC_];refine tkH 2 (.pointer (some ⟨W.heap.size+1,0,none⟩)) rfl ?_ ?_
 ·intro wx hSw;clear hSw zc_;go_simp
 simp only [Act.put,sA_,sB_,sC_];refine tkH 3 (.int .i64 yt) rfl ?_ ?_
 ·intro wx hSw;have e:=hSw.2.2.1 0 _ rfl;clear zc_ hSw;go_simp
 simp only [Act.put,sA_,sB_,sC_];refine tkH 5 (.pointer (some ⟨W.heap.size,1,none⟩)) rfl ?_ ?_
 ·intro wx hSw;clear hSw zc_;go_simp
 simp only [Act.put,sA_,sB_,sC_];refine tkH 6 (.int .i64 xn) rfl ?_ ?_
 ·intro wx hSw;have e:=hSw.1.2.1 1 _ rfl;clear zc_ hSw;go_simp
 simp only [Act.put,sA_,sB_,sC_];refine tkH 7 (.pointer (some ⟨W.heap.size+1,1,none⟩)) rfl ?_ ?_
 ·intro wx hSw;clear hSw zc_;go_simp
 simp only [Act.put,sA_,sB_,sC_];refine tkH 8 (.int .i64 yn) rfl ?_ ?_
 ·intro wx hSw;have e:=hSw.2.2.1 1 _ rfl;clear zc_ hSw;go_simp
 simp only [Act.put,sA_,sB_,sC_];refine rd1 4 rfl (fun K hK=> ?_);clear zc_;go_simp;refine (K1 _).mono ?_;rintro e nw ⟨rfl,hw⟩;subst hw;refine hK.out _ _ ⟨A1,B1⟩ (fun zc_=> ?_);clear hK K;refine rd1 9 rfl (fun K hK=> ?_);clear zc_;go_simp;refine (K2 _).mono ?_;rintro e nw ⟨rfl,hw⟩;subst hw;refine hK.out _ _ ⟨A1,B1⟩ (fun zc_=> ?_);clear hK K;refine rd1 10 rfl (fun K hK=> ?_);clear zc_;have hb:=zb_ W0.drew (.cells #[r1,r2] 3);have D:=Box.new W0.drew #[r1,r2] 3;have A2:=A1.below hb;have B2:=B1.below hb;clear hb;go_simp;refine hK.out _ _ ⟨A2,B2⟩ (fun zc_=> ?_);clear hK K K1 K2;refine rd1 11 rfl (fun K hK=> ?_);clear zc_;go_simp;refine (orI_any r1 r2 _ _ D).mono ?_;rintro e nw ⟨rfl,hw⟩;subst hw;rw [←HC.out];refine hK.out _ _ ⟨A2,B2⟩ (fun zc_=> ?_);clear hK K;refine tkH 12 (.int .i64 c) rfl ?_ ?_
 ·intro wx hSw;clear hSw zc_;go_simp
 simp only [Act.put,sA_,sB_,sC_];clear zc_;refine wpAnyH_done (by kernel_rfl) ?_ _;clear A A1 A2 B B1 B2 D;go_wp2;go_ret;exact⟨rfl,1,#[.cells #[xt,xn] 34,.cells #[yt,yn] 34,.cells #[r1,r2] 3],by rw [HW0.out,alloc_eq_grow,alloc_eq_grow,alloc_eq_grow,grow_grow,drew_grow,grow_grow];rfl⟩
end YtapfhhmimkkhnaaGreat
end Go.Proofs
