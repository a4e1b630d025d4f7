/-
  The draw of a step: clusterStep.
-/
import Derived.Test.YtapfhhmimkkhnaaD1ToD5
import Derived.Test.YtapfhhmimkkhnaaNCToPLI
import Derived.Deep.Cut
import Derived.Deep.CutBlock
namespace Go.Proofs.Ytapfhhmimkkhnaa
open Go.RowKit Go.Maps
set_option maxHeartbeats 8000000
set_option linter.unusedVariables false
set_option maxRecDepth 100000
theorem of3 {α:Type} {a b c x:α} (h:x∈ [a,b,c]):x=a∨x=b∨x=c:=by simpa using h
theorem Box.set5 {w:World} {b:Nat} {v0 v1 v2 v3 v4:Value} (h:Box w b [v0,v1,v2,v3,v4]) (u:Value):Box (w.setCell ⟨b,0,none⟩ u) b [u,v1,v2,v3,v4]∧Box (w.setCell ⟨b,2,none⟩ u) b [v0,v1,u,v3,v4]:=⟨h.set 0 u (by simp),h.set 2 u (by simp)⟩
theorem Box.ap {w:World} {b g:Nat} {vs:List Value} (h:Box w b vs) (hg:b≠g) (o:Nat) (u:Value):Box (w.setCell ⟨g,o,none⟩ u) b vs:=(Chg.setCell (S:=fun k=>k=g) (Chg.refl _ _) rfl u).box h hg
theorem clusterStep_any (b:Nat) (l:List UInt8) (K pe:Nat) (w:World) (h:Cur w b l K) (hl:l.length≤9223372036854775807) (hK:K≤1000000) (hp:pe≤5):
  Calls Try.prog 140 #[.pointer (some ⟨b,0,none⟩),pe] w fun e w'=>(∃s:Sp,e= .returned (.agg #[s.ki,s.no,s.k,s.ma,s.d])∧s.d.size≤1)∧Cur w' b l (K+40)∧Chg (· =b) w w':=by
 have hbl:=h.lt;obtain⟨W0,hW0⟩:∃W,W=w.alloc (.cells #[(0:Int),(0:Int),(0:Int),(0:Int),.string ⟨#[]⟩] 154):=⟨_,rfl⟩;have hB0:Below w.heap.size w W0:=by rw [hW0];exact zc_ _ _
 have R:Box W0 w.heap.size [(0:Int),(0:Int),(0:Int),(0:Int),.string ⟨#[]⟩]:=by rw [hW0];exact Box.new w #[(0:Int),(0:Int),(0:Int),(0:Int),.string ⟨#[]⟩] 154
 have hz0:w.heap.size<W0.heap.size:=by rw [hW0];simp
 have hc:=h.chg hB0;have hch:Chg (· =b) w W0:=Chg.of_below hB0;clear h hB0;go_enter Try.func140,Try.ntmps140;go_wp2_with fail;rw [←hW0];clear hW0;refine (zl_ b l (K) pe _ hc hl (by omega) (by omega)).mono ?_;rintro e w1 ⟨⟨x1,rfl,hx1⟩,hc1,hch1⟩;replace R:=hch1.box R (by omega);replace hch:=hch.trans hch1;replace hc:=hc1;have hzw1:=hch1.size;clear hc1 hch1;go_wp2_with fail;refine (zl_ b l (K+2) 4 _ hc hl (by omega) (by omega)).mono ?_;rintro e w2 ⟨⟨x2,rfl,hx2⟩,hc1,hch1⟩;replace R:=hch1.box R (by omega);replace hch:=hch.trans hch1;replace hc:=hc1;have hzw2:=hch1.size;clear hc1 hch1;go_wp2_with fail;refine (zl_ b l (K+2+2) 3 _ hc hl (by omega) (by omega)).mono ?_;rintro e w3 ⟨⟨x3,rfl,hx3⟩,hc1,hch1⟩;replace R:=hch1.box R (by omega);replace hch:=hch.trans hch1;replace hc:=hc1;have hzw3:=hch1.size;clear hc1 hch1;have hBs:=zc_ w3 (.cells #[.string ⟨#[120]⟩,.string ⟨#[121]⟩,.string ⟨#[122]⟩] 9);have V:=Box.new w3 #[.string ⟨#[120]⟩,.string ⟨#[121]⟩,.string ⟨#[122]⟩] 9;have hcs:=hc.chg hBs;have hltc:=hc.lt;replace R:=R.below hBs;replace hch:=hch.trans (Chg.of_below hBs);go_wp2_with fail;refine (of_any b l (K+2+2+2) w3.heap.size [⟨#[120]⟩,⟨#[121]⟩,⟨#[122]⟩] _ hcs hl (by omega) V (by omega) (by simp) (by simp)).mono ?_;rintro e w4 ⟨⟨d,rfl,hd⟩,hc1,hch1⟩;have hd1:d.size≤1:=by rcases of3 hd with rfl | rfl | rfl <;>decide
 have hzs:=hBs.size;replace R:=hch1.box R (by omega);replace hch:=hch.trans hch1;replace hc:=hc1;have hzw4:=hch1.size;clear hc1 hch1;clear hBs V hcs hltc hd;have S:=Box.new w4 #[(2:Int),x1,x2,(1+(x3:Int):Int),d] 154;have hBA:=zc_ w4 (.cells #[(2:Int),x1,x2,(1+(x3:Int):Int),d] 154);replace R:=R.below hBA;have hlt4:=hc.lt;replace hc:=hc.chg hBA;replace hch:=hch.trans (Chg.of_below hBA);go_upto_region 2 with fail;obtain⟨W5,hW5⟩:∃W,W=w4.alloc (.cells #[(2:Int),x1,x2,(1+(x3:Int):Int),d] 154):=⟨_,rfl⟩;rw [←hW5] at S R hc hch ⊢;have hz5:w4.heap.size<W5.heap.size:=by rw [hW5];simp
 clear hW5 hBA;have S:Box W5 w4.heap.size [(2:Int),x1,x2,(1+(x3:Int):Int),d]:=S;obtain⟨g5,hg5⟩:∃g5,Hid (w4.heap.size=g5):=⟨_,rfl⟩;rw [hg5.out] at S ⊢;have hg51:w.heap.size<g5:=by have:=hg5.out;omega
 have hg52:b<g5:=by omega
 clear hg5;go_wp2_with fail;refine (zl_ b l (K+2+2+2+2) 20 _ hc hl (by omega) (by omega)).mono ?_;rintro e w6 ⟨⟨x4,rfl,hx4⟩,hc1,hch1⟩;replace R:=hch1.box R (by omega);replace S:=hch1.box S (by omega);replace hch:=hch.trans hch1;replace hc:=hc1;have hzw6:=hch1.size;clear hc1 hch1;go_upto_block 0 with fail
 go_cut [] from 6 (fun wc=>∃(ki no k ma:Int) (d:ByteArray),Box wc g5 [ki,no,k,ma,d]∧Box wc w.heap.size [(0:Int),(0:Int),(0:Int),(0:Int),.string ⟨#[]⟩]∧d.size≤1∧Cur wc b l (K+2+2+2+2+2+2)∧Chg (· =b) w wc)
 case first=>
  have hsl:=S.1;obtain⟨_,s0,s1,s2,s3,s4⟩:=S.c5;have sf0:=S.2.2 0;have sf2:=S.2.2 2;have hc8:=hc.mono (show K+2+2+2+2+2≤K+2+2+2+2+2+2 from by omega);by_cases e0:x4=0
  ·subst e0;clear hx4;have S7:=(S.set5 (.int .i64 1)).1;have R7:=R.ap (show w.heap.size≠g5 from by omega) 0 (.int .i64 1);have hc7:=zx_ hc (show K+2+2+2+2+2≤K+2+2+2+2+2+2 from by omega) ⟨g5,0,none⟩ hg52 (.int .i64 1);have hch7:=zy_ hch ⟨g5,0,none⟩ (by show w.heap.size≤g5;omega) (.int .i64 1);clear S R hc hc8 hch;go_wp2_with fail;go_meet
   case rel=>exact⟨1,_,_,_,_,S7,R7,hd1,hc7,hch7⟩
  by_cases e1:x4=1
  ·subst e1;clear hx4;have S7:=(S.set5 (.int .i64 1)).1;have R7:=R.ap (show w.heap.size≠g5 from by omega) 0 (.int .i64 1);have hc7:=zx_ hc (show K+2+2+2+2+2≤K+2+2+2+2+2+2 from by omega) ⟨g5,0,none⟩ hg52 (.int .i64 1);have hch7:=zy_ hch ⟨g5,0,none⟩ (by show w.heap.size≤g5;omega) (.int .i64 1);clear S R hc hc8 hch;go_wp2_with fail;go_meet
   case rel=>exact⟨1,_,_,_,_,S7,R7,hd1,hc7,hch7⟩
  by_cases e2:x4=2
  ·subst e2;clear hx4;have S7:=(S.set5 (.int .i64 5)).1;have R7:=R.ap (show w.heap.size≠g5 from by omega) 0 (.int .i64 5);have hc7:=zx_ hc (show K+2+2+2+2+2≤K+2+2+2+2+2+2 from by omega) ⟨g5,0,none⟩ hg52 (.int .i64 5);have hch7:=zy_ hch ⟨g5,0,none⟩ (by show w.heap.size≤g5;omega) (.int .i64 5);clear S R hc hc8 hch;go_wp2_with fail;go_meet
   case rel=>exact⟨5,_,_,_,_,S7,R7,hd1,hc7,hch7⟩
  by_cases e3:x4=3
  ·subst e3;clear hx4;have S7:=(S.set5 (.int .i64 5)).1;have R7:=R.ap (show w.heap.size≠g5 from by omega) 0 (.int .i64 5);have hc7:=zx_ hc (show K+2+2+2+2+2≤K+2+2+2+2+2+2 from by omega) ⟨g5,0,none⟩ hg52 (.int .i64 5);have hch7:=zy_ hch ⟨g5,0,none⟩ (by show w.heap.size≤g5;omega) (.int .i64 5);clear S R hc hc8 hch;go_wp2_with fail;go_meet
   case rel=>exact⟨5,_,_,_,_,S7,R7,hd1,hc7,hch7⟩
  by_cases e4:x4=4
  ·subst e4;clear hx4;go_wp2_with fail;have S7:=(S.set5 (.int .i64 6)).1;have R7:=R.ap (show w.heap.size≠g5 from by omega) 0 (.int .i64 6);have hc7:=zx_ hc (Nat.le_refl _) ⟨g5,0,none⟩ hg52 (.int .i64 6);have hch7:=zy_ hch ⟨g5,0,none⟩ (by show w.heap.size≤g5;omega) (.int .i64 6);clear S R hc hc8 hch;refine (zl_ b l _ pe _ hc7 hl (by omega) (by omega)).mono ?_;rintro e w7 ⟨⟨x5,rfl,hx5⟩,hc1,hch1⟩;replace S7:=hch1.box S7 (by omega);replace R7:=hch1.box R7 (by omega);have hch8:=hch7.trans hch1;have S8:=(S7.set5 (.int .i64 (x5:Int))).2;have R8:=R7.ap (show w.heap.size≠g5 from by omega) 2 (.int .i64 (x5:Int));have hc8:=zx_ hc1 (Nat.le_refl _) ⟨g5,2,none⟩ hg52 (.int .i64 (x5:Int));have hch9:=zy_ hch8 ⟨g5,2,none⟩ (by show w.heap.size≤g5;omega) (.int .i64 (x5:Int));obtain⟨hs7,q0,q1,q2,q3,q4⟩:=S7.c5;have qf2:=S7.2.2 2;clear s0 s1 s2 s3 s4 sf0 sf2 S7 R7 hc7 hch7 hc1 hch1 hch8;go_wp2_with fail;go_meet
   case rel=>exact⟨6,_,_,_,_,S8,R8,hd1,hc8,hch9⟩
  by_cases e5:x4=5
  ·subst e5;clear hx4;go_wp2_with fail;have S7:=(S.set5 (.int .i64 6)).1;have R7:=R.ap (show w.heap.size≠g5 from by omega) 0 (.int .i64 6);have hc7:=zx_ hc (Nat.le_refl _) ⟨g5,0,none⟩ hg52 (.int .i64 6);have hch7:=zy_ hch ⟨g5,0,none⟩ (by show w.heap.size≤g5;omega) (.int .i64 6);clear S R hc hc8 hch;refine (zl_ b l _ pe _ hc7 hl (by omega) (by omega)).mono ?_;rintro e w7 ⟨⟨x5,rfl,hx5⟩,hc1,hch1⟩;replace S7:=hch1.box S7 (by omega);replace R7:=hch1.box R7 (by omega);have hch8:=hch7.trans hch1;have S8:=(S7.set5 (.int .i64 (x5:Int))).2;have R8:=R7.ap (show w.heap.size≠g5 from by omega) 2 (.int .i64 (x5:Int));have hc8:=zx_ hc1 (Nat.le_refl _) ⟨g5,2,none⟩ hg52 (.int .i64 (x5:Int));have hch9:=zy_ hch8 ⟨g5,2,none⟩ (by show w.heap.size≤g5;omega) (.int .i64 (x5:Int));obtain⟨hs7,q0,q1,q2,q3,q4⟩:=S7.c5;have qf2:=S7.2.2 2;clear s0 s1 s2 s3 s4 sf0 sf2 S7 R7 hc7 hch7 hc1 hch1 hch8;go_wp2_with fail;go_meet
   case rel=>exact⟨6,_,_,_,_,S8,R8,hd1,hc8,hch9⟩
  by_cases e6:x4=6
  ·subst e6;clear hx4;go_wp2_with fail;have S7:=(S.set5 (.int .i64 6)).1;have R7:=R.ap (show w.heap.size≠g5 from by omega) 0 (.int .i64 6);have hc7:=zx_ hc (Nat.le_refl _) ⟨g5,0,none⟩ hg52 (.int .i64 6);have hch7:=zy_ hch ⟨g5,0,none⟩ (by show w.heap.size≤g5;omega) (.int .i64 6);clear S R hc hc8 hch;refine (zl_ b l _ pe _ hc7 hl (by omega) (by omega)).mono ?_;rintro e w7 ⟨⟨x5,rfl,hx5⟩,hc1,hch1⟩;replace S7:=hch1.box S7 (by omega);replace R7:=hch1.box R7 (by omega);have hch8:=hch7.trans hch1;have S8:=(S7.set5 (.int .i64 (x5:Int))).2;have R8:=R7.ap (show w.heap.size≠g5 from by omega) 2 (.int .i64 (x5:Int));have hc8:=zx_ hc1 (Nat.le_refl _) ⟨g5,2,none⟩ hg52 (.int .i64 (x5:Int));have hch9:=zy_ hch8 ⟨g5,2,none⟩ (by show w.heap.size≤g5;omega) (.int .i64 (x5:Int));obtain⟨hs7,q0,q1,q2,q3,q4⟩:=S7.c5;have qf2:=S7.2.2 2;clear s0 s1 s2 s3 s4 sf0 sf2 S7 R7 hc7 hch7 hc1 hch1 hch8;go_wp2_with fail;go_meet
   case rel=>exact⟨6,_,_,_,_,S8,R8,hd1,hc8,hch9⟩
  by_cases e7:x4=7
  ·subst e7;clear hx4;have hBa:=zc_ w6 (.cells #[(3:Int),(4:Int),(7:Int)] 3);have V:=Box.new w6 #[(3:Int),(4:Int),(7:Int)] 3;have hca:=hc.chg hBa;have hltc:=hc.lt;replace R:=R.below hBa;replace S:=S.below hBa;replace hch:=hch.trans (Chg.of_below hBa);go_wp2_with fail;refine (among_any b l _ w6.heap.size [3,4,7] _ hca hl (by omega) V (by omega) (by simp) (by simp)).mono ?_;rintro e w7 ⟨⟨x5,rfl,hx5⟩,hc1,hch1⟩;replace S:=hch1.box S (by omega);replace R:=hch1.box R (by omega);replace hch:=hch.trans hch1;have S7:=(S.set5 (.int .i64 x5)).1;have R7:=R.ap (show w.heap.size≠g5 from by omega) 0 (.int .i64 x5);have hc7:=zx_ hc1 (Nat.le_refl _) ⟨g5,0,none⟩ hg52 (.int .i64 x5);have hch7:=zy_ hch ⟨g5,0,none⟩ (by show w.heap.size≤g5;omega) (.int .i64 x5);obtain⟨hs7,q0,q1,q2,q3,q4⟩:=S.c5;have qf0:=S.2.2 0;clear s0 s1 s2 s3 s4 sf0 sf2 S R hc hc8 hch hc1 hch1 hBa V hca;go_wp2_with fail;go_meet
   case rel=>exact⟨x5,_,_,_,_,S7,R7,hd1,hc7,hch7⟩
  have f0:¬(x4:Int)=0:=by omega
  have f1:¬(x4:Int)=1:=by omega
  have f2:¬(x4:Int)=2:=by omega
  have f3:¬(x4:Int)=3:=by omega
  have f4:¬(x4:Int)=4:=by omega
  have f5:¬(x4:Int)=5:=by omega
  have f6:¬(x4:Int)=6:=by omega
  have f7:¬(x4:Int)=7:=by omega
  clear hx4;go_wp2_with fail;go_meet
  case rel=>exact⟨2,_,_,_,_,S,R,hd1,hc8,hch⟩
 case rest=>
  clear S R hc hch hx1 hx2 hx3 hx4 hd1;obtain⟨ki,no,k,ma,d2,S,R,hd1,hc,hch⟩:=hcut;generalize wc=w8 at*;have hz8:=hch.size;have hs8:=S.1;obtain⟨_,s0,s1,s2,s3,s4⟩:=S.c5;have sf2:=S.2.2 2;go_upto_region 16 with fail
  go_cut [49] from 6 (fun s49 wc=>∃(x:Bool) (ki no k ma:Int) (d:ByteArray),s49= .bool x∧Box wc g5 [ki,no,k,ma,d]∧Box wc w.heap.size [(0:Int),(0:Int),(0:Int),(0:Int),.string ⟨#[]⟩]∧d.size≤1∧Cur wc b l (K+2+2+2+2+2+2+2)∧Chg (· =b) w wc)
  case first=>
   by_cases hk2:ki=2
   ·subst hk2;go_wp2_with fail;refine (one_any b l _ 2 _ hc hl (by omega) (by omega)).mono ?_;rintro e w9 ⟨⟨x6,rfl⟩,hc1,hch1⟩;replace S:=hch1.box S (by omega);replace R:=hch1.box R (by omega);replace hch:=hch.trans hch1;clear s0 s1 s2 s3 s4 sf2 hc hch1;go_wp2_with fail;go_meet
    case rel=>exact⟨x6,_,_,_,_,_,rfl,S,R,hd1,hc1,hch⟩
   ·have hc7:=hc.mono (show K+2+2+2+2+2+2≤K+2+2+2+2+2+2+2 from by omega);clear hc;go_wp2_with fail;go_meet
    case rel=>exact⟨false,_,_,_,_,_,rfl,S,R,hd1,hc7,hch⟩
  case rest=>
   clear S R hc hch hd1 s0 s1 s2 s3 s4 sf2 hs8;obtain⟨x6,ki,no,k,ma,d3,rfl,S,R,hd1,hc,hch⟩:=hcut;generalize wc=w9 at*;have hz9:=hch.size;go_upto_if 49 with fail
   go_cut [] from 6 (fun wc=>∃(ki no k ma:Int) (d:ByteArray),Box wc g5 [ki,no,k,ma,d]∧Box wc w.heap.size [(0:Int),(0:Int),(0:Int),(0:Int),.string ⟨#[]⟩]∧d.size≤1∧Cur wc b l (K+2+2+2+2+2+2+2)∧Chg (· =b) w wc)
   case first=>
    cases x6 with
    | false=>
     go_wp2_with fail;go_meet
     case rel=>exact⟨_,_,_,_,_,S,R,hd1,hc,hch⟩
    | true=>
     have hs9:=S.1;obtain⟨_,s0,s1,s2,s3,s4⟩:=S.c5;have sf2:=S.2.2 2;have S7:=(S.set5 (.int .i64 0)).2;have R7:=R.ap (show w.heap.size≠g5 from by omega) 2 (.int .i64 0);have hc7:=zx_ hc (Nat.le_refl _) ⟨g5,2,none⟩ hg52 (.int .i64 0);have hch7:=zy_ hch ⟨g5,2,none⟩ (by show w.heap.size≤g5;omega) (.int .i64 0);clear S R hc hch;go_wp2_with fail;go_meet
     case rel=>exact⟨_,_,_,_,_,S7,R7,hd1,hc7,hch7⟩
   case rest=>
   clear S R hc hch hd1;obtain⟨ki,no,k,ma,d3,S,R,hd1,hc,hch⟩:=hcut;generalize wc=w10 at*;have hz10:=hch.size;have hs10:=S.1;go_wp2_with fail;refine (one_any b l _ 60 _ hc hl (by omega) (by omega)).mono ?_;rintro e w11 ⟨⟨x7,rfl⟩,hc1,hch1⟩;replace S:=hch1.box S (by omega);replace R:=hch1.box R (by omega);replace hch:=hch.trans hch1;clear hc hch1 hs10;have hs11:=S.1;go_upto_if 52 with fail
   go_cut [] from 6 (fun wc=>∃(ki no k ma:Int) (d:ByteArray),Box wc g5 [ki,no,k,ma,d]∧Box wc w.heap.size [(0:Int),(0:Int),(0:Int),(0:Int),.string ⟨#[]⟩]∧d.size≤1∧Cur wc b l (K+2+2+2+2+2+2+2+2+2+2)∧Chg (· =b) w wc)
   case first=>
    cases x7 with
    | false=>
     have hc7:=hc1.mono (show K+2+2+2+2+2+2+2+2≤K+2+2+2+2+2+2+2+2+2+2 from by omega);clear hc1;go_wp2_with fail;go_meet
     case rel=>exact⟨_,_,_,_,_,S,R,hd1,hc7,hch⟩
    | true=>
     go_wp2_with fail;refine (zl_ b l _ 9 _ hc1 hl (by omega) (by omega)).mono ?_;rintro e w12 ⟨⟨x8,rfl,hx8⟩,hc2,hch2⟩;replace S:=hch2.box S (by omega);replace R:=hch2.box R (by omega);replace hch:=hch.trans hch2;have S7:=(S.set5 (.int .i64 x8)).1;have R7:=R.ap (show w.heap.size≠g5 from by omega) 0 (.int .i64 x8);have hc7:=zx_ hc2 (Nat.le_refl _) ⟨g5,0,none⟩ hg52 (.int .i64 x8);have hch7:=zy_ hch ⟨g5,0,none⟩ (by show w.heap.size≤g5;omega) (.int .i64 x8);have hs12:=S.1;obtain⟨_,s0,s1,s2,s3,s4⟩:=S.c5;have sf0:=S.2.2 0;clear S R hc1 hc2 hch hch2;go_upto_region 20 with fail;obtain⟨W12,hW12⟩:∃W,W=w12.setCell ⟨g5,0,none⟩ (.int .i64 x8):=⟨_,rfl⟩;rw [←hW12] at S7 R7 hc7 hch7 ⊢;clear hW12 s0 s1 s2 s3 s4 sf0;go_wp2_with fail;refine (zl_ b l _ 70 _ hc7 hl (by omega) (by omega)).mono ?_;rintro e w13 ⟨⟨x9,rfl,hx9⟩,hc2,hch2⟩;replace S7:=hch2.box S7 (by omega);replace R7:=hch2.box R7 (by omega);replace hch7:=hch7.trans hch2;have S8:=(S7.set5 (.int .i64 ((x9:Int)-1))).2;have R8:=R7.ap (show w.heap.size≠g5 from by omega) 2 (.int .i64 ((x9:Int)-1));have hc8:=zx_ hc2 (Nat.le_refl _) ⟨g5,2,none⟩ hg52 (.int .i64 ((x9:Int)-1));have hch8:=zy_ hch7 ⟨g5,2,none⟩ (by show w.heap.size≤g5;omega) (.int .i64 ((x9:Int)-1));obtain⟨_,s0,s1,s2,s3,s4⟩:=S7.c5;have sf2:=S7.2.2 2;have hs13:=S7.1;clear S7 R7 hc7 hc2 hch7 hch2;go_wp2_with fail;go_meet
     case rel=>exact⟨_,_,_,_,_,S8,R8,hd1,hc8,hch8⟩
   case rest=>
    clear S R hc1 hch hd1 hs11;obtain⟨ki,no,k,ma,d4,S,R,hd1,hc,hch⟩:=hcut;generalize wc=w14 at*;have hz14:=hch.size;obtain⟨hs14,s0,s1,s2,s3,s4⟩:=S.c5;obtain⟨hr14,r0,r1,r2,r3,r4⟩:=R.c5;have q0:=R.2.2 0;have q1:=R.2.2 1;have q2:=R.2.2 2;have q3:=R.2.2 3;have q4:=R.2.2 4;obtain⟨WF,hWF⟩:∃W,W=((((w14.setCell ⟨w.heap.size,0,none⟩ (.int .i64 ki)).setCell ⟨w.heap.size,1,none⟩ (.int .i64 no)).setCell ⟨w.heap.size,2,none⟩ (.int .i64 k)).setCell ⟨w.heap.size,3,none⟩ (.int .i64 ma)).setCell ⟨w.heap.size,4,none⟩ (.string d4):=⟨_,rfl⟩;have RF:Box WF w.heap.size [ki,no,k,ma,d4]:=by rw [hWF];exact ((((R.set 0 _ (by simp)).set 1 _ (by simp)).set 2 _ (by simp)).set 3 _ (by simp)).set 4 _ (by simp)
    have hcF:Cur WF b l (K+40):=by
     rw [hWF];exact zx_ (zx_ (zx_ (zx_ (zx_ hc (show _≤K+40 from by omega) _ hbl _) (Nat.le_refl _) _ hbl _) (Nat.le_refl _) _ hbl _) (Nat.le_refl _) _ hbl _) (Nat.le_refl _) _ hbl _
    have hchF:Chg (· =b) w WF:=by
     rw [hWF];exact zy_ (zy_ (zy_ (zy_ (zy_ hch _ (Nat.le_refl _) _) _ (Nat.le_refl _) _) _ (Nat.le_refl _) _) _ (Nat.le_refl _) _) _ (Nat.le_refl _) _
    obtain⟨hrF,t0,t1,t2,t3,t4⟩:=RF.c5;clear S R hc hch RF;go_wp2;rw [←hWF];exact bodyPost_ret (v:= .agg #[ki,no,k,ma,d4]) (by simp [results,Try.results140,go_sem,t0,t1,t2,t3,t4]) rfl ⟨⟨⟨ki,no,k,ma,d4⟩,rfl,hd1⟩,hcF,hchF⟩
end Go.Proofs.Ytapfhhmimkkhnaa
