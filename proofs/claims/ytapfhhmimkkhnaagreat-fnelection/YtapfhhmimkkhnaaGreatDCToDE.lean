/-
  The draw of a step: clusterStep.
  Steps appended to a row of one's own.
  The draw of steps in which a node is chosen: elected.
-/
import Derived.Test.YtapfhhmimkkhnaaGreatCMDToD5
import Derived.Test.YtapfhhmimkkhnaaGreatCC3ToPP
import Derived.Deep.Cut
import Derived.Deep.CutBlock
import Derived.Test.YtapfhhmimkkhnaaGreatP4ToA1
import Derived.Test.YtapfhhmimkkhnaaGreatCWToCV
import Derived.Test.YtapfhhmimkkhnaaGreatOVToLW
namespace Go.Proofs.YtapfhhmimkkhnaaGreat
open Go.RowKit Go.Maps
set_option linter.unusedVariables false
set_option maxRecDepth 100000
set_option maxHeartbeats 8000000
theorem of3 {α:Type} {a b c x:α} (h:x∈ [a,b,c]):x=a∨x=b∨x=c:=by simpa using h
theorem Box.set5 {w:World} {b:Nat} {v0 v1 v2 v3 v4:Value} (h:Box w b [v0,v1,v2,v3,v4]) (u:Value):Box (w.setCell ⟨b,0,none⟩ u) b [u,v1,v2,v3,v4]∧Box (w.setCell ⟨b,2,none⟩ u) b [v0,v1,u,v3,v4]:=⟨h.set 0 u (by simp),h.set 2 u (by simp)⟩
theorem Box.ap {w:World} {b g:Nat} {vs:List Value} (h:Box w b vs) (hg:b≠g) (o:Nat) (u:Value):Box (w.setCell ⟨g,o,none⟩ u) b vs:=(Chg.setCell (S:=fun k=>k=g) (Chg.refl _ _) rfl u).box h hg
theorem clusterStep_any (b:Nat) (l:List UInt8) (K pe:Nat) (w:World) (h:Cur w b l K) (hl:l.length≤9223372036854775807) (hK:K≤1000000) (hp:pe≤5):
  Calls Tryz.prog 66 #[.pointer (some ⟨b,0,none⟩),pe] w fun e w'=>(∃s:Sp,e= .returned (.agg #[s.ki,s.no,s.k,s.ma,s.d])∧s.d.size≤1)∧Cur w' b l (K+40)∧Chg (· =b) w w':=by
 have hbl:=h.lt;obtain⟨W0,hW0⟩:∃W,W=w.alloc (.cells #[(0:Int),(0:Int),(0:Int),(0:Int),.string ⟨#[]⟩] 51):=⟨_,rfl⟩;have hB0:Below w.heap.size w W0:=by rw [hW0];exact zb_ _ _
 have R:Box W0 w.heap.size [(0:Int),(0:Int),(0:Int),(0:Int),.string ⟨#[]⟩]:=by rw [hW0];exact Box.new w #[(0:Int),(0:Int),(0:Int),(0:Int),.string ⟨#[]⟩] 51
 have hz0:w.heap.size<W0.heap.size:=by rw [hW0];simp
 have hc:=h.chg hB0;have hch:Chg (· =b) w W0:=Chg.of_below hB0;clear h hB0;go_enter Tryz.func66,Tryz.ntmps66;go_wp2_with fail;rw [←hW0];clear hW0;refine (zO_ b l (K) pe _ hc hl (by omega) (by omega)).mono ?_;rintro e w1 ⟨⟨x1,rfl,hx1⟩,hc1,hch1⟩;replace R:=hch1.box R (by omega);replace hch:=hch.trans hch1;replace hc:=hc1;have hzw1:=hch1.size;clear hc1 hch1;go_wp2_with fail;refine (zO_ b l (K+2) 4 _ hc hl (by omega) (by omega)).mono ?_;rintro e w2 ⟨⟨x2,rfl,hx2⟩,hc1,hch1⟩;replace R:=hch1.box R (by omega);replace hch:=hch.trans hch1;replace hc:=hc1;have hzw2:=hch1.size;clear hc1 hch1;go_wp2_with fail;refine (zO_ b l (K+2+2) 3 _ hc hl (by omega) (by omega)).mono ?_;rintro e w3 ⟨⟨x3,rfl,hx3⟩,hc1,hch1⟩;replace R:=hch1.box R (by omega);replace hch:=hch.trans hch1;replace hc:=hc1;have hzw3:=hch1.size;clear hc1 hch1;have hBs:=zb_ w3 (.cells #[.string ⟨#[120]⟩,.string ⟨#[121]⟩,.string ⟨#[122]⟩] 9);have V:=Box.new w3 #[.string ⟨#[120]⟩,.string ⟨#[121]⟩,.string ⟨#[122]⟩] 9;have hcs:=hc.chg hBs;have hltc:=hc.lt;replace R:=R.below hBs;replace hch:=hch.trans (Chg.of_below hBs);go_wp2_with fail;refine (of_any b l (K+2+2+2) w3.heap.size [⟨#[120]⟩,⟨#[121]⟩,⟨#[122]⟩] _ hcs hl (by omega) V (by omega) (by simp) (by simp)).mono ?_;rintro e w4 ⟨⟨d,rfl,hd⟩,hc1,hch1⟩;have hd1:d.size≤1:=by rcases of3 hd with rfl | rfl | rfl <;>decide
 have hzs:=hBs.size;replace R:=hch1.box R (by omega);replace hch:=hch.trans hch1;replace hc:=hc1;have hzw4:=hch1.size;clear hc1 hch1;clear hBs V hcs hltc hd;have S:=Box.new w4 #[(2:Int),x1,x2,(1+(x3:Int):Int),d] 51;have hBA:=zb_ w4 (.cells #[(2:Int),x1,x2,(1+(x3:Int):Int),d] 51);replace R:=R.below hBA;have hlt4:=hc.lt;replace hc:=hc.chg hBA;replace hch:=hch.trans (Chg.of_below hBA);go_upto_region 2 with fail;obtain⟨W5,hW5⟩:∃W,W=w4.alloc (.cells #[(2:Int),x1,x2,(1+(x3:Int):Int),d] 51):=⟨_,rfl⟩;rw [←hW5] at S R hc hch ⊢;have hz5:w4.heap.size<W5.heap.size:=by rw [hW5];simp
 clear hW5 hBA;have S:Box W5 w4.heap.size [(2:Int),x1,x2,(1+(x3:Int):Int),d]:=S;obtain⟨g5,hg5⟩:∃g5,Hid (w4.heap.size=g5):=⟨_,rfl⟩;rw [hg5.out] at S ⊢;have hg51:w.heap.size<g5:=by have:=hg5.out;omega
 have hg52:b<g5:=by omega
 clear hg5;go_wp2_with fail;refine (zO_ b l (K+2+2+2+2) 20 _ hc hl (by omega) (by omega)).mono ?_;rintro e w6 ⟨⟨x4,rfl,hx4⟩,hc1,hch1⟩;replace R:=hch1.box R (by omega);replace S:=hch1.box S (by omega);replace hch:=hch.trans hch1;replace hc:=hc1;have hzw6:=hch1.size;clear hc1 hch1;go_upto_block 0 with fail
 go_cut [] from 6 (fun wc=>∃(ki no k ma:Int) (d:ByteArray),Box wc g5 [ki,no,k,ma,d]∧Box wc w.heap.size [(0:Int),(0:Int),(0:Int),(0:Int),.string ⟨#[]⟩]∧d.size≤1∧Cur wc b l (K+2+2+2+2+2+2)∧Chg (· =b) w wc)
 case first=>
  have hsl:=S.1;obtain⟨_,s0,s1,s2,s3,s4⟩:=S.c5;have sf0:=S.2.2 0;have sf2:=S.2.2 2;have hc8:=hc.mono (show K+2+2+2+2+2≤K+2+2+2+2+2+2 from by omega);by_cases e0:x4=0
  ·subst e0;clear hx4;have S7:=(S.set5 (.int .i64 1)).1;have R7:=R.ap (show w.heap.size≠g5 from by omega) 0 (.int .i64 1);have hc7:=zX_ hc (show K+2+2+2+2+2≤K+2+2+2+2+2+2 from by omega) ⟨g5,0,none⟩ hg52 (.int .i64 1);have hch7:=zY_ hch ⟨g5,0,none⟩ (by show w.heap.size≤g5;omega) (.int .i64 1);clear S R hc hc8 hch;go_wp2_with fail;go_meet
   case rel=>exact⟨1,_,_,_,_,S7,R7,hd1,hc7,hch7⟩
  by_cases e1:x4=1
  ·subst e1;clear hx4;have S7:=(S.set5 (.int .i64 1)).1;have R7:=R.ap (show w.heap.size≠g5 from by omega) 0 (.int .i64 1);have hc7:=zX_ hc (show K+2+2+2+2+2≤K+2+2+2+2+2+2 from by omega) ⟨g5,0,none⟩ hg52 (.int .i64 1);have hch7:=zY_ hch ⟨g5,0,none⟩ (by show w.heap.size≤g5;omega) (.int .i64 1);clear S R hc hc8 hch;go_wp2_with fail;go_meet
   case rel=>exact⟨1,_,_,_,_,S7,R7,hd1,hc7,hch7⟩
  by_cases e2:x4=2
  ·subst e2;clear hx4;have S7:=(S.set5 (.int .i64 5)).1;have R7:=R.ap (show w.heap.size≠g5 from by omega) 0 (.int .i64 5);have hc7:=zX_ hc (show K+2+2+2+2+2≤K+2+2+2+2+2+2 from by omega) ⟨g5,0,none⟩ hg52 (.int .i64 5);have hch7:=zY_ hch ⟨g5,0,none⟩ (by show w.heap.size≤g5;omega) (.int .i64 5);clear S R hc hc8 hch;go_wp2_with fail;go_meet
   case rel=>exact⟨5,_,_,_,_,S7,R7,hd1,hc7,hch7⟩
  by_cases e3:x4=3
  ·subst e3;clear hx4;have S7:=(S.set5 (.int .i64 5)).1;have R7:=R.ap (show w.heap.size≠g5 from by omega) 0 (.int .i64 5);have hc7:=zX_ hc (show K+2+2+2+2+2≤K+2+2+2+2+2+2 from by omega) ⟨g5,0,none⟩ hg52 (.int .i64 5);have hch7:=zY_ hch ⟨g5,0,none⟩ (by show w.heap.size≤g5;omega) (.int .i64 5);clear S R hc hc8 hch;go_wp2_with fail;go_meet
   case rel=>exact⟨5,_,_,_,_,S7,R7,hd1,hc7,hch7⟩
  by_cases e4:x4=4
  ·subst e4;clear hx4;go_wp2_with fail;have S7:=(S.set5 (.int .i64 6)).1;have R7:=R.ap (show w.heap.size≠g5 from by omega) 0 (.int .i64 6);have hc7:=zX_ hc (Nat.le_refl _) ⟨g5,0,none⟩ hg52 (.int .i64 6);have hch7:=zY_ hch ⟨g5,0,none⟩ (by show w.heap.size≤g5;omega) (.int .i64 6);clear S R hc hc8 hch;refine (zO_ b l _ pe _ hc7 hl (by omega) (by omega)).mono ?_;rintro e w7 ⟨⟨x5,rfl,hx5⟩,hc1,hch1⟩;replace S7:=hch1.box S7 (by omega);replace R7:=hch1.box R7 (by omega);have hch8:=hch7.trans hch1;have S8:=(S7.set5 (.int .i64 (x5:Int))).2;have R8:=R7.ap (show w.heap.size≠g5 from by omega) 2 (.int .i64 (x5:Int));have hc8:=zX_ hc1 (Nat.le_refl _) ⟨g5,2,none⟩ hg52 (.int .i64 (x5:Int));have hch9:=zY_ hch8 ⟨g5,2,none⟩ (by show w.heap.size≤g5;omega) (.int .i64 (x5:Int));obtain⟨hs7,q0,q1,q2,q3,q4⟩:=S7.c5;have qf2:=S7.2.2 2;clear s0 s1 s2 s3 s4 sf0 sf2 S7 R7 hc7 hch7 hc1 hch1 hch8;go_wp2_with fail;go_meet
   case rel=>exact⟨6,_,_,_,_,S8,R8,hd1,hc8,hch9⟩
  by_cases e5:x4=5
  ·subst e5;clear hx4;go_wp2_with fail;have S7:=(S.set5 (.int .i64 6)).1;have R7:=R.ap (show w.heap.size≠g5 from by omega) 0 (.int .i64 6);have hc7:=zX_ hc (Nat.le_refl _) ⟨g5,0,none⟩ hg52 (.int .i64 6);have hch7:=zY_ hch ⟨g5,0,none⟩ (by show w.heap.size≤g5;omega) (.int .i64 6);clear S R hc hc8 hch;refine (zO_ b l _ pe _ hc7 hl (by omega) (by omega)).mono ?_;rintro e w7 ⟨⟨x5,rfl,hx5⟩,hc1,hch1⟩;replace S7:=hch1.box S7 (by omega);replace R7:=hch1.box R7 (by omega);have hch8:=hch7.trans hch1;have S8:=(S7.set5 (.int .i64 (x5:Int))).2;have R8:=R7.ap (show w.heap.size≠g5 from by omega) 2 (.int .i64 (x5:Int));have hc8:=zX_ hc1 (Nat.le_refl _) ⟨g5,2,none⟩ hg52 (.int .i64 (x5:Int));have hch9:=zY_ hch8 ⟨g5,2,none⟩ (by show w.heap.size≤g5;omega) (.int .i64 (x5:Int));obtain⟨hs7,q0,q1,q2,q3,q4⟩:=S7.c5;have qf2:=S7.2.2 2;clear s0 s1 s2 s3 s4 sf0 sf2 S7 R7 hc7 hch7 hc1 hch1 hch8;go_wp2_with fail;go_meet
   case rel=>exact⟨6,_,_,_,_,S8,R8,hd1,hc8,hch9⟩
  by_cases e6:x4=6
  ·subst e6;clear hx4;go_wp2_with fail;have S7:=(S.set5 (.int .i64 6)).1;have R7:=R.ap (show w.heap.size≠g5 from by omega) 0 (.int .i64 6);have hc7:=zX_ hc (Nat.le_refl _) ⟨g5,0,none⟩ hg52 (.int .i64 6);have hch7:=zY_ hch ⟨g5,0,none⟩ (by show w.heap.size≤g5;omega) (.int .i64 6);clear S R hc hc8 hch;refine (zO_ b l _ pe _ hc7 hl (by omega) (by omega)).mono ?_;rintro e w7 ⟨⟨x5,rfl,hx5⟩,hc1,hch1⟩;replace S7:=hch1.box S7 (by omega);replace R7:=hch1.box R7 (by omega);have hch8:=hch7.trans hch1;have S8:=(S7.set5 (.int .i64 (x5:Int))).2;have R8:=R7.ap (show w.heap.size≠g5 from by omega) 2 (.int .i64 (x5:Int));have hc8:=zX_ hc1 (Nat.le_refl _) ⟨g5,2,none⟩ hg52 (.int .i64 (x5:Int));have hch9:=zY_ hch8 ⟨g5,2,none⟩ (by show w.heap.size≤g5;omega) (.int .i64 (x5:Int));obtain⟨hs7,q0,q1,q2,q3,q4⟩:=S7.c5;have qf2:=S7.2.2 2;clear s0 s1 s2 s3 s4 sf0 sf2 S7 R7 hc7 hch7 hc1 hch1 hch8;go_wp2_with fail;go_meet
   case rel=>exact⟨6,_,_,_,_,S8,R8,hd1,hc8,hch9⟩
  by_cases e7:x4=7
  ·subst e7;clear hx4;have hBa:=zb_ w6 (.cells #[(3:Int),(4:Int),(7:Int)] 3);have V:=Box.new w6 #[(3:Int),(4:Int),(7:Int)] 3;have hca:=hc.chg hBa;have hltc:=hc.lt;replace R:=R.below hBa;replace S:=S.below hBa;replace hch:=hch.trans (Chg.of_below hBa);go_wp2_with fail;refine (among_any b l _ w6.heap.size [3,4,7] _ hca hl (by omega) V (by omega) (by simp) (by simp)).mono ?_;rintro e w7 ⟨⟨x5,rfl,hx5⟩,hc1,hch1⟩;replace S:=hch1.box S (by omega);replace R:=hch1.box R (by omega);replace hch:=hch.trans hch1;have S7:=(S.set5 (.int .i64 x5)).1;have R7:=R.ap (show w.heap.size≠g5 from by omega) 0 (.int .i64 x5);have hc7:=zX_ hc1 (Nat.le_refl _) ⟨g5,0,none⟩ hg52 (.int .i64 x5);have hch7:=zY_ hch ⟨g5,0,none⟩ (by show w.heap.size≤g5;omega) (.int .i64 x5);obtain⟨hs7,q0,q1,q2,q3,q4⟩:=S.c5;have qf0:=S.2.2 0;clear s0 s1 s2 s3 s4 sf0 sf2 S R hc hc8 hch hc1 hch1 hBa V hca;go_wp2_with fail;go_meet
   case rel=>exact⟨x5,_,_,_,_,S7,R7,hd1,hc7,hch7⟩
  have f0:¬(x4:Int)=0:=by omega
  have f1:¬(x4:Int)=1:=by omega
  have f2:¬(x4:Int)=2:=by omega
  have f3:¬(x4:Int)=3:=by omega
  have f4:¬(x4:Int)=4:=by omega
  have f5:¬(x4:Int)=5:=by omega
  have f6:¬(x4:Int)=6:=by omega
  have f7:¬(x4:Int)=7:=by omega
  clear hx4;go_wp2_with fail;go_meet
  case rel=>exact⟨2,_,_,_,_,S,R,hd1,hc8,hch⟩
 case rest=>
  clear S R hc hch hx1 hx2 hx3 hx4 hd1;obtain⟨ki,no,k,ma,d2,S,R,hd1,hc,hch⟩:=hcut;generalize wc=w8 at*;have hz8:=hch.size;have hs8:=S.1;obtain⟨_,s0,s1,s2,s3,s4⟩:=S.c5;have sf2:=S.2.2 2;go_upto_region 16 with fail
  go_cut [49] from 6 (fun s49 wc=>∃(x:Bool) (ki no k ma:Int) (d:ByteArray),s49= .bool x∧Box wc g5 [ki,no,k,ma,d]∧Box wc w.heap.size [(0:Int),(0:Int),(0:Int),(0:Int),.string ⟨#[]⟩]∧d.size≤1∧Cur wc b l (K+2+2+2+2+2+2+2)∧Chg (· =b) w wc)
  case first=>
   by_cases hk2:ki=2
   ·subst hk2;go_wp2_with fail;refine (one_any b l _ 2 _ hc hl (by omega) (by omega)).mono ?_;rintro e w9 ⟨⟨x6,rfl⟩,hc1,hch1⟩;replace S:=hch1.box S (by omega);replace R:=hch1.box R (by omega);replace hch:=hch.trans hch1;clear s0 s1 s2 s3 s4 sf2 hc hch1;go_wp2_with fail;go_meet
    case rel=>exact⟨x6,_,_,_,_,_,rfl,S,R,hd1,hc1,hch⟩
   ·have hc7:=hc.mono (show K+2+2+2+2+2+2≤K+2+2+2+2+2+2+2 from by omega);clear hc;go_wp2_with fail;go_meet
    case rel=>exact⟨false,_,_,_,_,_,rfl,S,R,hd1,hc7,hch⟩
  case rest=>
   clear S R hc hch hd1 s0 s1 s2 s3 s4 sf2 hs8;obtain⟨x6,ki,no,k,ma,d3,rfl,S,R,hd1,hc,hch⟩:=hcut;generalize wc=w9 at*;have hz9:=hch.size;go_upto_if 49 with fail
   go_cut [] from 6 (fun wc=>∃(ki no k ma:Int) (d:ByteArray),Box wc g5 [ki,no,k,ma,d]∧Box wc w.heap.size [(0:Int),(0:Int),(0:Int),(0:Int),.string ⟨#[]⟩]∧d.size≤1∧Cur wc b l (K+2+2+2+2+2+2+2)∧Chg (· =b) w wc)
   case first=>
    cases x6 with
    | false=>
     go_wp2_with fail;go_meet
     case rel=>exact⟨_,_,_,_,_,S,R,hd1,hc,hch⟩
    | true=>
     have hs9:=S.1;obtain⟨_,s0,s1,s2,s3,s4⟩:=S.c5;have sf2:=S.2.2 2;have S7:=(S.set5 (.int .i64 0)).2;have R7:=R.ap (show w.heap.size≠g5 from by omega) 2 (.int .i64 0);have hc7:=zX_ hc (Nat.le_refl _) ⟨g5,2,none⟩ hg52 (.int .i64 0);have hch7:=zY_ hch ⟨g5,2,none⟩ (by show w.heap.size≤g5;omega) (.int .i64 0);clear S R hc hch;go_wp2_with fail;go_meet
     case rel=>exact⟨_,_,_,_,_,S7,R7,hd1,hc7,hch7⟩
   case rest=>
   clear S R hc hch hd1;obtain⟨ki,no,k,ma,d3,S,R,hd1,hc,hch⟩:=hcut;generalize wc=w10 at*;have hz10:=hch.size;have hs10:=S.1;go_wp2_with fail;refine (one_any b l _ 60 _ hc hl (by omega) (by omega)).mono ?_;rintro e w11 ⟨⟨x7,rfl⟩,hc1,hch1⟩;replace S:=hch1.box S (by omega);replace R:=hch1.box R (by omega);replace hch:=hch.trans hch1;clear hc hch1 hs10;have hs11:=S.1;go_upto_if 52 with fail
   go_cut [] from 6 (fun wc=>∃(ki no k ma:Int) (d:ByteArray),Box wc g5 [ki,no,k,ma,d]∧Box wc w.heap.size [(0:Int),(0:Int),(0:Int),(0:Int),.string ⟨#[]⟩]∧d.size≤1∧Cur wc b l (K+2+2+2+2+2+2+2+2+2+2)∧Chg (· =b) w wc)
   case first=>
    cases x7 with
    | false=>
     have hc7:=hc1.mono (show K+2+2+2+2+2+2+2+2≤K+2+2+2+2+2+2+2+2+2+2 from by omega);clear hc1;go_wp2_with fail;go_meet
     case rel=>exact⟨_,_,_,_,_,S,R,hd1,hc7,hch⟩
    | true=>
     go_wp2_with fail;refine (zO_ b l _ 9 _ hc1 hl (by omega) (by omega)).mono ?_;rintro e w12 ⟨⟨x8,rfl,hx8⟩,hc2,hch2⟩;replace S:=hch2.box S (by omega);replace R:=hch2.box R (by omega);replace hch:=hch.trans hch2;have S7:=(S.set5 (.int .i64 x8)).1;have R7:=R.ap (show w.heap.size≠g5 from by omega) 0 (.int .i64 x8);have hc7:=zX_ hc2 (Nat.le_refl _) ⟨g5,0,none⟩ hg52 (.int .i64 x8);have hch7:=zY_ hch ⟨g5,0,none⟩ (by show w.heap.size≤g5;omega) (.int .i64 x8);have hs12:=S.1;obtain⟨_,s0,s1,s2,s3,s4⟩:=S.c5;have sf0:=S.2.2 0;clear S R hc1 hc2 hch hch2;go_upto_region 20 with fail;obtain⟨W12,hW12⟩:∃W,W=w12.setCell ⟨g5,0,none⟩ (.int .i64 x8):=⟨_,rfl⟩;rw [←hW12] at S7 R7 hc7 hch7 ⊢;clear hW12 s0 s1 s2 s3 s4 sf0;go_wp2_with fail;refine (zO_ b l _ 70 _ hc7 hl (by omega) (by omega)).mono ?_;rintro e w13 ⟨⟨x9,rfl,hx9⟩,hc2,hch2⟩;replace S7:=hch2.box S7 (by omega);replace R7:=hch2.box R7 (by omega);replace hch7:=hch7.trans hch2;have S8:=(S7.set5 (.int .i64 ((x9:Int)-1))).2;have R8:=R7.ap (show w.heap.size≠g5 from by omega) 2 (.int .i64 ((x9:Int)-1));have hc8:=zX_ hc2 (Nat.le_refl _) ⟨g5,2,none⟩ hg52 (.int .i64 ((x9:Int)-1));have hch8:=zY_ hch7 ⟨g5,2,none⟩ (by show w.heap.size≤g5;omega) (.int .i64 ((x9:Int)-1));obtain⟨_,s0,s1,s2,s3,s4⟩:=S7.c5;have sf2:=S7.2.2 2;have hs13:=S7.1;clear S7 R7 hc7 hc2 hch7 hch2;go_wp2_with fail;go_meet
     case rel=>exact⟨_,_,_,_,_,S8,R8,hd1,hc8,hch8⟩
   case rest=>
    clear S R hc1 hch hd1 hs11;obtain⟨ki,no,k,ma,d4,S,R,hd1,hc,hch⟩:=hcut;generalize wc=w14 at*;have hz14:=hch.size;obtain⟨hs14,s0,s1,s2,s3,s4⟩:=S.c5;obtain⟨hr14,r0,r1,r2,r3,r4⟩:=R.c5;have q0:=R.2.2 0;have q1:=R.2.2 1;have q2:=R.2.2 2;have q3:=R.2.2 3;have q4:=R.2.2 4;obtain⟨WF,hWF⟩:∃W,W=((((w14.setCell ⟨w.heap.size,0,none⟩ (.int .i64 ki)).setCell ⟨w.heap.size,1,none⟩ (.int .i64 no)).setCell ⟨w.heap.size,2,none⟩ (.int .i64 k)).setCell ⟨w.heap.size,3,none⟩ (.int .i64 ma)).setCell ⟨w.heap.size,4,none⟩ (.string d4):=⟨_,rfl⟩;have RF:Box WF w.heap.size [ki,no,k,ma,d4]:=by rw [hWF];exact ((((R.set 0 _ (by simp)).set 1 _ (by simp)).set 2 _ (by simp)).set 3 _ (by simp)).set 4 _ (by simp)
    have hcF:Cur WF b l (K+40):=by
     rw [hWF];exact zX_ (zX_ (zX_ (zX_ (zX_ hc (show _≤K+40 from by omega) _ hbl _) (Nat.le_refl _) _ hbl _) (Nat.le_refl _) _ hbl _) (Nat.le_refl _) _ hbl _) (Nat.le_refl _) _ hbl _
    have hchF:Chg (· =b) w WF:=by
     rw [hWF];exact zY_ (zY_ (zY_ (zY_ (zY_ hch _ (Nat.le_refl _) _) _ (Nat.le_refl _) _) _ (Nat.le_refl _) _) _ (Nat.le_refl _) _) _ (Nat.le_refl _) _
    obtain⟨hrF,t0,t1,t2,t3,t4⟩:=RF.c5;clear S R hc hch RF;go_wp2;rw [←hWF];exact bodyPost_ret (v:= .agg #[ki,no,k,ma,d4]) (by simp [results,Tryz.results66,go_sem,t0,t1,t2,t3,t4]) rfl ⟨⟨⟨ki,no,k,ma,d4⟩,rfl,hd1⟩,hcF,hchF⟩
set_option maxHeartbeats 200000
theorem run_nothingT {w:World} {base n:Nat} {v:Value} {xs:List Value} (c:Nat) (h:w.ownsRow base 51 5 v n xs):(Builtin.append_ #[23,23] 23 #[v,.slice none 0 c]).run Tryz.prog w= .ok v w:=by
 rcases h.2 with⟨rfl,h0⟩ | ⟨g,cap,cur,rfl,hbase,hb,h1,h2,h3,h4⟩
 ·simp [Builtin.append_,run_underlying Tryz.underlying23,Builtin.lenOf,Builtin.firstCells,Tryz.sizeOf51]
 ·simp [Builtin.append_,run_underlying Tryz.underlying23,Builtin.lenOf,Builtin.firstCells,Tryz.sizeOf51,h1,storeCells]
theorem wpList_append_Ts (w:World) {ops:Array Oper} {rest:List Oper} {o:Oper} {a:Act} {Q:Exit→Act→World→Prop} (hgd:o.guard=none) (s x:Operand)
  (ho:o.op= .call ⟨.builtin .append,#[s,x],#[23,23]⟩) (hty:o.type=23)
  (base:Nat) (v:Value) (n:Nat) (zs:List Sp) (hs:a.eval s=v) (hown:w.ownsRow base 51 5 v n (flT zs))
  (xv:Value) (ys:List Sp) (hx:a.eval x=xv) (hI:TR w xv ys) (hn:n+ys.length≤2000000) (hbase:base≤w.heap.size)
  (h:∀v' w',w'.ownsRow base 51 5 v' (n+ys.length) (flT (zs++ys))→w.grownBy w' v.ownBlock→(v'.ownBlock=v.ownBlock∨v'.ownBlock=some w.heap.size)→wpList Tryz.prog ops Q rest (a.put o.dst v') w'):wpList Tryz.prog ops Q (o::rest) a w:=by
 obtain⟨i0,hi,hz0,hzs,hzb⟩:=info_parts Tryz.info51;obtain⟨xa,xc,rfl,hc⟩:=hI
 cases xa with
 | none=>
  have hy:ys= []:=by
   by_cases e:ys= []
   ·exact e
   ·obtain⟨b,off,h,_⟩:=hc e;cases h
  subst hy;refine wpList_plain hgd fun K hK'=> ?_;have hrun:=run_nothingT xc hown;unfold Oper.wp;simp [execOp,ho,resolve,invoke,builtin,hs,hx,hty,hrun,Result.andThen];exact hK' _ _ (h v w (by simpa using hown) ⟨rfl,rfl,rfl,Nat.le_refl _,fun _ _ _=>rfl⟩ (.inl rfl))
 | some ad=>
  refine wpList_append_own_at _ hgd s x 23 ho base 51 i0 (.agg #[(0:Int),(0:Int),(0:Int),(0:Int),.string ⟨#[]⟩]) 5 48 Tryz.underlying23 hi hz0 hzs hzb rfl (by decide) v n (flT zs) hs hown ad ys.length xc (flT ys) hx (flT_length ys) ?_ ?_ (by unfold maxLen;omega) (by omega) hbase fun v' w' h1 h2 _ h4=>h v' w' (by rw [flT_append];exact h1) h2 h4
  ·intro j u hj;have hj4:j<ys.length*5:=by rw [←flT_length ys];exact (List.getElem?_eq_some_iff.1 hj).1
   obtain⟨b,off,he,hb,hcell⟩:=hc (by intro e;rw [e] at hj4;simp at hj4);injection he with he;subst he;have ea:∀j,(⟨b,off,none⟩:Addr).add j=⟨b,off+j,none⟩:=fun j=>by simp [Addr.add]
   obtain⟨c0,c1,c2,c3,c4⟩:=hcell (j / 5) (by omega);obtain⟨g0,g1,g2,g3,g4⟩:=flT_get ys (j / 5) (by omega);obtain hm | hm | hm | hm | hm:j % 5=0∨j % 5=1∨j % 5=2∨j % 5=3∨j % 5=4:=by omega
   ·have e:j=j / 5*5:=by omega
    rw [←e] at g0 c0;rw [g0] at hj;injection hj with hj;rw [←hj,ea];exact c0
   ·have e:j=j / 5*5+1:=by omega
    rw [←e] at g1;rw [g1] at hj;injection hj with hj;rw [←hj,ea,show off+j=off+j / 5*5+1 from by omega];exact c1
   ·have e:j=j / 5*5+2:=by omega
    rw [←e] at g2;rw [g2] at hj;injection hj with hj;rw [←hj,ea,show off+j=off+j / 5*5+2 from by omega];exact c2
   ·have e:j=j / 5*5+3:=by omega
    rw [←e] at g3;rw [g3] at hj;injection hj with hj;rw [←hj,ea,show off+j=off+j / 5*5+3 from by omega];exact c3
   ·have e:j=j / 5*5+4:=by omega
    rw [←e] at g4;rw [g4] at hj;injection hj with hj;rw [←hj,ea,show off+j=off+j / 5*5+4 from by omega];exact c4
  ·intro u hu;obtain⟨j,hj,e⟩:=List.getElem_of_mem hu;rw [flT_length] at hj;have hj':(flT ys)[j]? =some u:=List.getElem?_eq_some_iff.2 ⟨by rw [flT_length];exact hj,e⟩;obtain⟨g0,g1,g2,g3,g4⟩:=flT_get ys (j / 5) (by omega);obtain hm | hm | hm | hm | hm:j % 5=0∨j % 5=1∨j % 5=2∨j % 5=3∨j % 5=4:=by omega
   ·rw [show j=j / 5*5 from by omega,g0] at hj';injection hj' with hj';rw [←hj'];rfl
   ·rw [show j=j / 5*5+1 from by omega,g1] at hj';injection hj' with hj';rw [←hj'];rfl
   ·rw [show j=j / 5*5+2 from by omega,g2] at hj';injection hj' with hj';rw [←hj'];rfl
   ·rw [show j=j / 5*5+3 from by omega,g3] at hj';injection hj' with hj';rw [←hj'];rfl
   ·rw [show j=j / 5*5+4 from by omega,g4] at hj';injection hj' with hj';rw [←hj'];rfl
theorem zZ_ (w:World) {ops:Array Oper} {rest:List Oper} {o:Oper} {a:Act} {Q:Exit→Act→World→Prop} (hgd:o.guard=none) (s y:Operand)
  (ho:o.op= .call ⟨.builtin .append,#[s,y],#[23,23]⟩) (hty:o.type=23)
  (base:Nat) (v:Value) (n:Nat) (zs:List Sp) (hs:a.eval s=v) (hown:w.ownsRow base 51 5 v n (flT zs))
  (b:Nat) (x:Sp) (hx:a.eval y= .slice (some ⟨b,0,none⟩) 1 1) (hI:Box w b [x.ki,x.no,x.k,x.ma,x.d]) (hn:n+1≤2000000) (hbase:base≤w.heap.size)
  (h:∀v' w',w'.ownsRow base 51 5 v' (n+1) (flT (zs++ [x]))→w.grownBy w' v.ownBlock→(v'.ownBlock=v.ownBlock∨v'.ownBlock=some w.heap.size)→wpList Tryz.prog ops Q rest (a.put o.dst v') w'):wpList Tryz.prog ops Q (o::rest) a w:=by
 refine wpList_append_Ts w hgd s y ho hty base v n zs hs hown _ [x] hx ⟨some ⟨b,0,none⟩,1,rfl,fun _=>⟨b,0,rfl,hI.1,fun i hi=> ?_⟩⟩ (by simpa using hn) hbase (by simpa using h);obtain rfl:i=0:=by simp at hi;omega
 exact⟨by simpa using hI.2.1 0 _ rfl,by simpa using hI.2.1 1 _ rfl,by simpa using hI.2.1 2 _ rfl,by simpa using hI.2.1 3 _ rfl,by simpa using hI.2.1 4 _ rfl⟩
set_option maxHeartbeats 8000000
theorem elected_any (b:Nat) (l:List UInt8) (K pe:Nat) (no:Int) (w:World) (h:Cur w b l K) (hl:l.length≤9223372036854775807) (hK:K≤1000000) (hp1:1≤pe) (hp:pe≤5):
  Calls Tryz.prog 65 #[.pointer (some ⟨b,0,none⟩),pe,no] w fun e w'=>(∃v L,e= .returned v∧w'.ownsRow w.heap.size 51 5 v L.length (flT L)∧L.length≤40∧∀s∈L,s.d.size≤1)∧Cur w' b l (K+40)∧Chg (· =b) w w':=by
 have hbl:=h.lt;obtain⟨W1,hW1⟩:∃W,W=w.alloc (.cells #[(1:Int),no,(0:Int),(0:Int),.string ⟨#[]⟩] 51):=⟨_,rfl⟩;have hB1:Below w.heap.size w W1:=by rw [hW1];exact zb_ _ _
 have oL:W1.ownsRow w.heap.size 51 5 (.slice (some ⟨w.heap.size,0,none⟩) 1 1) 1 (flT [⟨1,no,0,0,⟨#[]⟩⟩]):=by
  rw [hW1];exact World.ownsRow_lit w #[(1:Int),no,(0:Int),(0:Int),.string ⟨#[]⟩] 1 (Nat.le_refl _) (by simp [maxLen]) (by simp)
 have hz1:w.heap.size<W1.heap.size:=by rw [hW1];simp
 have hc:=h.chg hB1;have hch:Chg (· =b) w W1:=Chg.of_below hB1;clear h hB1;have hm:(2:Int)*((pe:Int)-1)=((2*(pe-1):Nat):Int):=by omega
 go_enter Tryz.func65,Tryz.ntmps65;go_upto_region 2 with fail;rw [←hW1];clear hW1;generalize hn:2*(pe-1)=n at*;have hn8:n≤8:=by omega
 go_wp2
 go_loopw [7,8] (fun v i wr=>∃(L:List Sp) (j:Nat),wr.ownsRow w.heap.size 51 5 v L.length (flT L)∧L.length≤1+j∧(∀s∈L,s.d.size≤1)∧Cur wr b l (K)∧Chg (· =b) w wr∧i= .int .i64 j∧j≤n∧w.heap.size<wr.heap.size) (fun _ i _=>n-(intOf i).toNat)
 case atStart=>exact⟨_,0,oL,Nat.le_refl _,fun s hs=>by rw [List.mem_singleton.1 hs];show (⟨#[]⟩:ByteArray).size≤1;decide,hc,hch,rfl,Nat.zero_le _,hz1⟩
 case round=>
  clear oL hc hch hz1;obtain⟨L,j,oL,hlen,hL,hc,hch,rfl,hj,hzr⟩:=hrel;obtain⟨va,vc,rfl⟩:=ze_ oL;by_cases hlt:j<n
  ·go_wp2_with (at_builtin;refine zs_.go ?_);unfold zs_;have V:=Box.new wr #[(2:Int),(0:Int),(0:Int),(0:Int),.string ⟨#[]⟩] 51;have hBA:=zb_ wr (.cells #[(2:Int),(0:Int),(0:Int),(0:Int),.string ⟨#[]⟩] 51);have hzA:wr.heap.size<(wr.alloc (.cells #[(2:Int),(0:Int),(0:Int),(0:Int),.string ⟨#[]⟩] 51)).heap.size:=by simp
   replace oL:=zd_ oL hBA;replace hc:=hc.chg hBA;replace hch:=hch.trans (Chg.of_below hBA);refine zZ_ _ rfl _ _ rfl rfl w.heap.size _ L.length L rfl oL wr.heap.size ⟨2,0,0,0,⟨#[]⟩⟩ rfl V (by omega) (by omega) ?_;intro v9 w9 o9 hgr9 _;have hC9:=zz_ hgr9;have hz9:=hC9.size;have hB9:Below w.heap.size (wr.alloc (.cells #[(2:Int),(0:Int),(0:Int),(0:Int),.string ⟨#[]⟩] 51)) w9:=hC9.below (by omega) (fun q hq=>zg_ oL q hq);replace hc:=cur_low hc hbl hB9;replace hch:=hch.nextC hC9 (fun q hq=> .inr (zg_ oL q hq));have HL9:∀s∈L++ [(⟨2,0,0,0,⟨#[]⟩⟩:Sp)],s.d.size≤1:=fun s hs=>by
    rcases List.mem_append.1 hs with h | h
    ·exact hL s h
    ·rw [List.mem_singleton.1 h];show (⟨#[]⟩:ByteArray).size≤1;decide
   have hl9:(L++ [(⟨2,0,0,0,⟨#[]⟩⟩:Sp)]).length=L.length+1:=by simp
   rw [←hl9] at o9;generalize hL9:L++ [(⟨2,0,0,0,⟨#[]⟩⟩:Sp)]=L9 at*;have hzN:w.heap.size<w9.heap.size:=by omega
   clear hgr9 hC9 hB9 hBA V hzA oL hL9;go_wp2;go_roundw
   case rel=>exact⟨L9,j+1,o9,by omega,HL9,hc,hch,by go_num,by omega,by omega⟩
   case measure=>simp [intOf];omega
  ·obtain rfl:j=n:=by omega
   clear hlt;have hBs:=zb_ wr (.cells #[.string ⟨#[112]⟩,.string ⟨#[113]⟩] 9);have V:=Box.new wr #[.string ⟨#[112]⟩,.string ⟨#[113]⟩] 9;have hcs:=hc.chg hBs;have hltc:=hc.lt;replace oL:=zd_ oL hBs;replace hch:=hch.trans (Chg.of_below hBs);have hzs:=hBs.size;go_wp2_with fail;refine (of_any b l K wr.heap.size [⟨#[112]⟩,⟨#[113]⟩] _ hcs hl (by omega) V (by omega) (by simp) (by simp)).mono ?_;rintro e w2 ⟨⟨d,rfl,hd⟩,hc1,hch1⟩;have hd1:d.size≤1:=by
    have hd2:d=⟨#[112]⟩∨d=⟨#[113]⟩:=by simpa using hd
    rcases hd2 with rfl | rfl <;>decide
   replace oL:=hch1.owns oL (fun x hx hh=>by have:=zg_ oL x hx;have hh:x=b:=hh;omega);replace hch:=hch.trans hch1;have hz2:=hch1.size;clear hc hcs hBs V hch1 hd;have hc:=hc1;clear hc1;go_wp2_with (at_builtin;refine zs_.go ?_);unfold zs_;have V:=Box.new w2 #[(5:Int),no,(0:Int),(0:Int),d] 51;have hBA:=zb_ w2 (.cells #[(5:Int),no,(0:Int),(0:Int),d] 51);have hzA:w2.heap.size<(w2.alloc (.cells #[(5:Int),no,(0:Int),(0:Int),d] 51)).heap.size:=by simp
   replace oL:=zd_ oL hBA;replace hc:=hc.chg hBA;replace hch:=hch.trans (Chg.of_below hBA);refine zZ_ _ rfl _ _ rfl rfl w.heap.size _ L.length L rfl oL w2.heap.size ⟨5,no,0,0,d⟩ rfl V (by omega) (by omega) ?_;intro v9 w9 o9 hgr9 _;have hC9:=zz_ hgr9;have hz9:=hC9.size;have hB9:Below w.heap.size (w2.alloc (.cells #[(5:Int),no,(0:Int),(0:Int),d] 51)) w9:=hC9.below (by omega) (fun q hq=>zg_ oL q hq);replace hc:=cur_low hc hbl hB9;replace hch:=hch.nextC hC9 (fun q hq=> .inr (zg_ oL q hq));have HL9:∀s∈L++ [(⟨5,no,0,0,d⟩:Sp)],s.d.size≤1:=fun s hs=>by
    rcases List.mem_append.1 hs with h | h
    ·exact hL s h
    ·rw [List.mem_singleton.1 h];exact hd1
   have hl9:(L++ [(⟨5,no,0,0,d⟩:Sp)]).length=L.length+1:=by simp
   rw [←hl9] at o9;generalize hL9:L++ [(⟨5,no,0,0,d⟩:Sp)]=L9 at*;have hzN:w.heap.size<w9.heap.size:=by omega
   clear hgr9 hC9 hB9 hBA V hzA oL hL9;have oL:=o9;have hL:=HL9;have hlen9:L9.length≤1+8+1:=by omega
   clear o9 HL9 hlen hl9 hm;obtain⟨vb,vd,rfl⟩:=ze_ oL;go_wp2
   go_loopw [7,9] (fun v i wx=>∃(L:List Sp) (q:Nat),wx.ownsRow w.heap.size 51 5 v L.length (flT L)∧L.length≤1+8+1+q∧(∀s∈L,s.d.size≤1)∧Cur wx b l (K+2+2*q)∧Chg (· =b) w wx∧i= .int .i64 q∧q≤pe∧w.heap.size<wx.heap.size) (fun _ i _=>pe-(intOf i).toNat)
   case atStart=>exact⟨_,0,oL,hlen9,hL,hc,hch,rfl,Nat.zero_le _,by omega⟩
   case round=>
    clear oL hL hc hch hlen9 hz9 hz2 hzs;obtain⟨L,q,oL,hlen,hL,hc,hch,rfl,hq,hzx⟩:=hrel;obtain⟨va,vc,rfl⟩:=ze_ oL;by_cases hlt:q<pe
    ·go_wp2_with fail;refine (one_any b l _ 4 _ hc hl (by omega) (by omega)).mono ?_;rintro e w3 ⟨⟨x,rfl⟩,hc1,hch1⟩;replace oL:=hch1.owns oL (fun x hx hh=>by have:=zg_ oL x hx;have hh:x=b:=hh;omega);replace hch:=hch.trans hch1;have hz3:=hch1.size;clear hc hch1;have hc:=hc1.mono (show _≤K+2+2*(q+1) from by omega);clear hc1
     cases x with
     | true=>
      go_wp2;go_roundw
      case rel=>exact⟨L,q+1,oL,by omega,hL,hc,hch,by go_num,by omega,by omega⟩
      case measure=>simp [intOf];omega
     | false=>
      go_wp2_with (at_builtin;refine zs_.go ?_);unfold zs_;have V:=Box.new w3 #[(6:Int),no,(q:Int),(3:Int),.string ⟨#[]⟩] 51;have hBA:=zb_ w3 (.cells #[(6:Int),no,(q:Int),(3:Int),.string ⟨#[]⟩] 51);have hzA:w3.heap.size<(w3.alloc (.cells #[(6:Int),no,(q:Int),(3:Int),.string ⟨#[]⟩] 51)).heap.size:=by simp
      replace oL:=zd_ oL hBA;replace hc:=hc.chg hBA;replace hch:=hch.trans (Chg.of_below hBA);refine zZ_ _ rfl _ _ rfl rfl w.heap.size _ L.length L rfl oL w3.heap.size ⟨6,no,(q:Int),3,⟨#[]⟩⟩ rfl V (by omega) (by omega) ?_;intro v9 w9 o9 hgr9 _;have hC9:=zz_ hgr9;have hz9:=hC9.size;have hB9:Below w.heap.size (w3.alloc (.cells #[(6:Int),no,(q:Int),(3:Int),.string ⟨#[]⟩] 51)) w9:=hC9.below (by omega) (fun q hq=>zg_ oL q hq);replace hc:=cur_low hc hbl hB9;replace hch:=hch.nextC hC9 (fun q hq=> .inr (zg_ oL q hq));have HL9:∀s∈L++ [(⟨6,no,(q:Int),3,⟨#[]⟩⟩:Sp)],s.d.size≤1:=fun s hs=>by
       rcases List.mem_append.1 hs with h | h
       ·exact hL s h
       ·rw [List.mem_singleton.1 h];show (⟨#[]⟩:ByteArray).size≤1;decide
      have hl9:(L++ [(⟨6,no,(q:Int),3,⟨#[]⟩⟩:Sp)]).length=L.length+1:=by simp
      rw [←hl9] at o9;generalize hL9:L++ [(⟨6,no,(q:Int),3,⟨#[]⟩⟩:Sp)]=L9 at*;have hzN:w.heap.size<w9.heap.size:=by omega
      clear hgr9 hC9 hB9 hBA V hzA oL hL9;go_wp2;go_roundw
      case rel=>exact⟨L9,q+1,o9,by omega,HL9,hc,hch,by go_num,by omega,by omega⟩
      case measure=>simp [intOf];omega
    ·obtain rfl:q=pe:=by omega
     clear hlt;obtain⟨m,hmq⟩:∃m:Nat,m=2*q:=⟨_,rfl⟩;have hm2:(2:Int)*(q:Int)=(m:Int):=by omega
     have hm10:m≤10:=by omega
     clear hmq;go_wp2_with fail;refine (zO_ b l _ m _ hc hl (by omega) (by omega)).mono ?_;rintro e w4 ⟨⟨x,rfl,hx⟩,hc1,hch1⟩;replace oL:=hch1.owns oL (fun x hx hh=>by have:=zg_ oL x hx;have hh:x=b:=hh;omega);replace hch:=hch.trans hch1;have hz4:=hch1.size;clear hc hch1 hm2;have hx10:x≤10:=by omega
     have hc:=hc1.mono (show _≤K+40 from by omega);clear hc1 hx;go_wp2
     go_loopw [7,10] (fun v i wy=>∃(L:List Sp) (q:Nat),wy.ownsRow w.heap.size 51 5 v L.length (flT L)∧L.length≤15+(10-q)∧(∀s∈L,s.d.size≤1)∧Cur wy b l (K+40)∧Chg (· =b) w wy∧i= .int .i64 q∧q≤10∧w.heap.size<wy.heap.size) (fun _ i _=>(intOf i).toNat)
     case atStart=>exact⟨_,x,oL,by omega,hL,hc,hch,rfl,hx10,by omega⟩
     case round=>
      clear oL hL hc hch hlen hz4;obtain⟨L,q2,oL,hlen,hL,hc,hch,rfl,hq2,hzy⟩:=hrel;obtain⟨va,vc,rfl⟩:=ze_ oL;by_cases hlt:0<q2
      ·have hlt2:(0:Int)<(q2:Int):=by omega
       go_wp2_with (at_builtin;refine zs_.go ?_);unfold zs_;have V:=Box.new wr #[(2:Int),(0:Int),(0:Int),(0:Int),.string ⟨#[]⟩] 51;have hBA:=zb_ wr (.cells #[(2:Int),(0:Int),(0:Int),(0:Int),.string ⟨#[]⟩] 51);have hzA:wr.heap.size<(wr.alloc (.cells #[(2:Int),(0:Int),(0:Int),(0:Int),.string ⟨#[]⟩] 51)).heap.size:=by simp
       replace oL:=zd_ oL hBA;replace hc:=hc.chg hBA;replace hch:=hch.trans (Chg.of_below hBA);refine zZ_ _ rfl _ _ rfl rfl w.heap.size _ L.length L rfl oL wr.heap.size ⟨2,0,0,0,⟨#[]⟩⟩ rfl V (by omega) (by omega) ?_;intro v9 w9 o9 hgr9 _;have hC9:=zz_ hgr9;have hz9:=hC9.size;have hB9:Below w.heap.size (wr.alloc (.cells #[(2:Int),(0:Int),(0:Int),(0:Int),.string ⟨#[]⟩] 51)) w9:=hC9.below (by omega) (fun q hq=>zg_ oL q hq);replace hc:=cur_low hc hbl hB9;replace hch:=hch.nextC hC9 (fun q hq=> .inr (zg_ oL q hq));have HL9:∀s∈L++ [(⟨2,0,0,0,⟨#[]⟩⟩:Sp)],s.d.size≤1:=fun s hs=>by
        rcases List.mem_append.1 hs with h | h
        ·exact hL s h
        ·rw [List.mem_singleton.1 h];show (⟨#[]⟩:ByteArray).size≤1;decide
       have hl9:(L++ [(⟨2,0,0,0,⟨#[]⟩⟩:Sp)]).length=L.length+1:=by simp
       rw [←hl9] at o9;generalize hL9:L++ [(⟨2,0,0,0,⟨#[]⟩⟩:Sp)]=L9 at*;have hzN:w.heap.size<w9.heap.size:=by omega
       clear hgr9 hC9 hB9 hBA V hzA oL hL9;go_wp2;go_roundw
       case rel=>exact⟨L9,q2-1,o9,by omega,HL9,hc,hch,by go_num,by omega,by omega⟩
       case measure=>simp [intOf];omega
      ·obtain rfl:q2=0:=by omega
       go_wp2;go_ret;exact⟨⟨_,L,rfl,oL,by omega,hL⟩,hc,hch⟩
end Go.Proofs.YtapfhhmimkkhnaaGreat
