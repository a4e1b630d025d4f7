/-
  What a leader sends, the specification's way: l11Append.
-/
import Derived.Test.YtapfhhmimkkhnaaGreatSQ
import Derived.Test.YtapfhhmimkkhnaaGreatOVToLW
import Derived.Test.YtapfhhmimkkhnaaGreatA4ToKC3
import Derived.Test.YtapfhhmimkkhnaaGreatF7
import Derived.Deep.Cut
import Derived.Deep.CutBlock
import Derived.Deep.RegionHeld3
namespace Go.Proofs.YtapfhhmimkkhnaaGreat
open Go.RowKit Go.Maps
set_option maxHeartbeats 32000000
set_option linter.unusedVariables false
set_option maxRecDepth 100000
theorem below4 (w:World) (o p q r:Obj):Below w.heap.size w ((((w.alloc o).alloc p).alloc q).alloc r):=(below3 _ _ _ _).alloc (by simp;omega) _
theorem l11Append_any (nk p:Nat) (te vo co:Int) (la:Option Addr) (lc:Nat) (log:List En) (ki fr dst mte be mco:Int) (ye:Bool) (ea:Option Addr) (ec:Nat) (es:List En) (q:Nat) (base:Nat) (w:World) (ho:w.ownsRow base 44 2 (.slice la log.length lc) log.length (zx_ log)) (he:ER w (.slice ea es.length ec) es) (hce:es.length≤ec) (hbase:base≤w.heap.size) (nl:log.length≤60) (ne:es.length≤60) (hq:q≤60) (hc0:0≤co)
  (fb:Bool) (hfb:fb=fitsB ⟨nk,p,te,vo,co,0,log,[],[]⟩ ⟨ki,fr,dst,mte,q,be,mco,ye,es⟩) (hap:fb=true→apY ⟨nk,p,te,vo,co,0,log,[],[]⟩ ⟨ki,fr,dst,mte,q,be,mco,ye,es⟩=true) (lg:List En) (hlg:lg=if fb=true then lgW log q es else log) (cc:Int) (hcc:cc=if fb=true then max co (min mco ((q:Int)+(es.length:Int))) else co) (ix:Int) (hix:ix=if fb=true then (q:Int)+(es.length:Int) else noIx log.length q):
  Calls Tryz.prog 163 #[.agg #[nk,p,te,vo,.slice la log.length lc,co,.int .i64 0,(),()],.agg #[ki,fr,dst,mte,q,be,.slice ea es.length ec,mco,ye]] w fun e w'=>(∃ul,e= .returned (.tuple #[.agg #[nk,p,te,vo,ul,cc,.int .i64 0,(),()],.agg #[.int .i64 4,nk,fr,te,ix,.int .i64 0,(),.int .i64 0,fb],true])∧w'.ownsRow base 44 2 ul lg.length (zx_ lg)∧∀b,ul.ownBlock=some b→(.slice la log.length lc:Value).ownBlock=some b∨w.heap.size≤b)∧Below w.heap.size w w':=by
 obtain⟨W0,hW0,hB,X,M,Y,Z,hz0⟩:=al4 w [nk,p,te,vo,.slice la log.length lc,co,.int .i64 0,(),()] 42 [ki,fr,dst,mte,q,be,.slice ea es.length ec,mco,ye] 80 zN 42 zM 80;have KT:=fun W (hb:Below w.heap.size w W) (hq:q≤log.length)=>l11Term_any nk p te vo co 0 (.slice la log.length lc) (.slice none 0 0) (.slice none 0 0) log [] [] q W (yd_ (zd_ ho hb) rfl) (yo_ (World.ownsRow_nil _ W.heap.size 3 1) rfl) (yo_ (World.ownsRow_nil _ W.heap.size 3 1) rfl) hq (by omega);have hcl:=(owns_cap ho).1;have HELW:Hid (ER w (.slice la log.length lc) log):=yd_ ho rfl;have OL:=zd_ ho hB;have apb:=zg_ ho;clear ho;obtain⟨xl,x0,x1,x2,x3,x4,x5,x6,x7,x8⟩:=X.e9;obtain⟨ml,m0,m1,m2,m3,m4,m5,m6,m7,m8⟩:=M.e9;go_enter Tryz.func163,Tryz.ntmps163
 go_upto_region 1 with fail
 rw [←hW0];clear hW0;have hBa:=zb_ W0 (.cells #[.int .i64 4,nk,fr,te,.int .i64 0,.int .i64 0,(),.int .i64 0,false] 80);have T:=Box.new W0 #[.int .i64 4,nk,fr,te,.int .i64 0,.int .i64 0,(),.int .i64 0,false] 80;replace hB:=za_ hB hBa;replace X:=X.below hBa;replace M:=M.below hBa;replace Y:=Y.below hBa;replace Z:=Z.below hBa;replace OL:=zd_ OL hBa;obtain⟨wq,hwq⟩:∃W,W=W0.alloc (.cells #[.int .i64 4,nk,fr,te,.int .i64 0,.int .i64 0,(),.int .i64 0,false] 80):=⟨_,rfl⟩;obtain⟨g,hg⟩:∃g,g=W0.heap.size:=⟨_,rfl⟩;have hg1:w.heap.size+1+1+1+1≤g:=by omega
 replace apb:∀b,(.slice la log.length lc:Value).ownBlock=some b→b<w.heap.size∨g<b:=fun b hb=> .inl (apb b hb);rw [←hwq] at hB X M Y Z T OL;rw [←hg] at T
 go_upto_region 2 with fail
 rw [←hwq,←hg];clear hwq hg hBa;clear xl x0 x1 x2 x3 x4 x5 x6 x7 x8 ml m0 m1 m2 m3 m4 m5 m6 m7 m8;by_cases c2:q≤log.length;rotate_left
 ·have HFB:Hid (fb=false):=by show _=_;rw [hfb];simp [fitsB];omega
  clear KT hfb;have hgt:(log.length:Int)<(q:Int):=by omega
  obtain⟨xl,x0,x1,x2,x3,x4,x5,x6,x7,x8⟩:=X.e9;obtain⟨ml,m0,m1,m2,m3,m4,m5,m6,m7,m8⟩:=M.e9
  go_quiet (fail)
  have hbq:=yn_ wq nq;replace X:=X.below hbq;replace M:=M.below hbq;replace Y:=Y.below hbq;replace Z:=Z.below hbq;replace T:=T.below hbq;replace OL:=zd_ OL hbq;replace hB:=za_ hB hbq;generalize wq.drewN nq=W4 at*;clear hbq;clear xl x0 x1 x2 x3 x4 x5 x6 x7 x8 ml m0 m1 m2 m3 m4 m5 m6 m7 m8;obtain rfl:lg=log:=by rw [hlg,HFB.out];rfl
  obtain rfl:cc=co:=by rw [hcc,HFB.out];rfl
  obtain rfl:fb=false:=HFB.out;clear hlg hcc hap HFB;have hwm:IntKind.i64.wrap ((q:Int)-1)=(q:Int)-1:=by rw [IntKind.wrap_i64];omega
  obtain⟨xl,x0,x1,x2,x3,x4,x5,x6,x7,x8⟩:=X.e9;obtain⟨ml,m0,m1,m2,m3,m4,m5,m6,m7,m8⟩:=M.e9;obtain⟨ttl,tt0,tt1,tt2,tt3,tt4,tt5,tt6,tt7,tt8⟩:=T.e9;obtain⟨h0,h1,h2,h3,h4,h5,h6,h7,h8⟩:=T.f9
  go_upto_region 4 with fail
  obtain⟨W5,hW5⟩:∃W,W=W4.setCell ⟨g,4,none⟩ (.int .i64 ((q:Int)-1)):=⟨_,rfl⟩;have hC:Chg (fun b=>b=g) W4 W5:=by rw [hW5];exact Chg.setCell (S:=fun b=>b=g) (Chg.refl _ _) rfl _
  replace T:Box W5 g [.int .i64 4,nk,fr,te,.int .i64 ((q:Int)-1),.int .i64 0,(),.int .i64 0,false]:=by rw [hW5];exact T.set 4 _ (by simp)
  replace X:=hC.box X (by omega);replace M:=hC.box M (by omega);replace Y:=hC.box Y (by omega);replace Z:=hC.box Z (by omega);replace OL:=hC.owns OL (fun b hb hh=>by have:=apb b hb;have hh:b=g:=hh;omega);replace hB:=hB.trans (hC.b1 hB.size (by omega));rw [←hW5];clear hW5 hC;clear xl x0 x1 x2 x3 x4 x5 x6 x7 x8 ml m0 m1 m2 m3 m4 m5 m6 m7 m8;clear ttl tt0 tt1 tt2 tt3 tt4 tt5 tt6 tt7 tt8;clear h0 h1 h2 h3 h4 h5 h6 h7 h8;by_cases h1:(lg.length:Int)<(q:Int)-1
  ·obtain rfl:ix=(lg.length:Int):=by rw [hix];simp [noIx];omega
   clear hix;obtain⟨xl,x0,x1,x2,x3,x4,x5,x6,x7,x8⟩:=X.e9;obtain⟨ttl,tt0,tt1,tt2,tt3,tt4,tt5,tt6,tt7,tt8⟩:=T.e9;obtain⟨h0,h1,h2,h3,h4,h5,h6,h7,h8⟩:=T.f9
   go_upto_region 6 with fail
   obtain⟨WQ,hWQ⟩:∃W,W=W5.setCell ⟨g,4,none⟩ (.int .i64 (lg.length:Int)):=⟨_,rfl⟩;have hC:Chg (fun b=>b=g) W5 WQ:=by rw [hWQ];exact Chg.setCell (S:=fun b=>b=g) (Chg.refl _ _) rfl _
   replace T:Box WQ g [.int .i64 4,nk,fr,te,(lg.length:Int),.int .i64 0,(),.int .i64 0,false]:=by rw [hWQ];exact T.set 4 _ (by simp)
   replace X:=hC.box X (by omega);replace M:=hC.box M (by omega);replace Y:=hC.box Y (by omega);replace Z:=hC.box Z (by omega);replace OL:=hC.owns OL (fun b hb hh=>by have:=apb b hb;have hh:b=g:=hh;omega);replace hB:=hB.trans (hC.b1 hB.size (by omega));rw [←hWQ];clear hWQ hC;clear xl x0 x1 x2 x3 x4 x5 x6 x7 x8;clear ttl tt0 tt1 tt2 tt3 tt4 tt5 tt6 tt7 tt8;clear h0 h1 h2 h3 h4 h5 h6 h7 h8;obtain⟨xl,x0,x1,x2,x3,x4,x5,x6,x7,x8⟩:=X.e9;obtain⟨ttl,tt0,tt1,tt2,tt3,tt4,tt5,tt6,tt7,tt8⟩:=T.e9;have hn:¬(lg.length:Int)<0:=by omega
   go_upto_region 8 with fail
   clear xl x0 x1 x2 x3 x4 x5 x6 x7 x8;clear ttl tt0 tt1 tt2 tt3 tt4 tt5 tt6 tt7 tt8;have hzs:=hB.size;obtain⟨W9,hW9,hC3,Y3⟩:=zk_ WQ Y nk p te vo (.slice la lg.length lc) cc (0:Int) () ();have hy9:=Y.1;have hz9:=Z.1;have Z3:=hC3.box Z (by omega);have T3:=hC3.box T (by omega);have O3:=hC3.owns OL (fun b hb hh=>by have h8:=apb b hb;have hh:b=w.heap.size+1+1:=hh;omega);have hB3:=hB.trans (hC3.b1 hB.size (by omega));obtain⟨WZ,hWZ,hC4,Z4⟩:=zk_ W9 Z3 (.int .i64 4) nk fr te (lg.length:Int) (0:Int) () (0:Int) false;have Y4:=hC4.box Y3 (by omega);have O4:=hC4.owns O3 (fun b hb hh=>by have h8:=apb b hb;have hh:b=w.heap.size+1+1+1:=hh;omega);have hB4:=hB3.trans (hC4.b1 hB3.size (by omega));unfold put9 at hW9 hWZ;have HW9:Hid _:=hW9;have HWZ:Hid _:=hWZ;clear hW9 hWZ hC3 hC4;obtain⟨xl,x0,x1,x2,x3,x4,x5,x6,x7,x8⟩:=X.e9;obtain⟨ttl,tt0,tt1,tt2,tt3,tt4,tt5,tt6,tt7,tt8⟩:=T.e9;obtain⟨yl,y0,y1,y2,y3,y4,y5,y6,y7,y8⟩:=Y.e9;obtain⟨f0,f1,f2,f3,f4,f5,f6,f7,f8⟩:=Y.f9;obtain⟨zl,z0,z1,z2,z3,z4,z5,z6,z7,z8⟩:=Z.e9;obtain⟨g0,g1,g2,g3,g4,g5,g6,g7,g8⟩:=Z.f9;clear X T Y Z Y3 Z3 T3 O3 hB hB3 OL M
   go_region
   rw [←HW9.out,←HWZ.out];clear HW9 HWZ;replace Y4:=zr_ Y4;replace Z4:=zr_ Z4;replace O4:=O4.drew;replace hB4:=hB4.drew;generalize WZ.drew=WE at*;obtain⟨rl,r0,r1,r2,r3,r4,r5,r6,r7,r8⟩:=Y4.e9;obtain⟨sl,s0,s1,s2,s3,s4,s5,s6,s7,s8⟩:=Z4.e9;clear Y4 Z4;go_wp2;exact bodyPost_ret (v:= .tuple #[.agg #[nk,p,te,vo,.slice la lg.length lc,cc,.int .i64 0,(),()],.agg #[.int .i64 4,nk,fr,te,(lg.length:Int),.int .i64 0,(),.int .i64 0,false],true]) (by simp [results,Tryz.results163,go_sem,r0,r1,r2,r3,r4,r5,r6,r7,r8,s0,s1,s2,s3,s4,s5,s6,s7,s8]) rfl ⟨⟨_,rfl,O4,fun b hb=> .inl hb⟩,hB4⟩
  ·by_cases hm1:(q:Int)-1<0
   ·obtain rfl:ix=0:=by rw [hix];simp [noIx];omega
    clear hix;obtain⟨xl,x0,x1,x2,x3,x4,x5,x6,x7,x8⟩:=X.e9;obtain⟨ttl,tt0,tt1,tt2,tt3,tt4,tt5,tt6,tt7,tt8⟩:=T.e9;obtain⟨h0,h1,h2,h3,h4,h5,h6,h7,h8⟩:=T.f9;have hmb:decide ((q:Int)-1<0)=true:=decide_eq_true hm1;clear hm1
    go_upto_region 8 with fail
    obtain⟨WQ,hWQ⟩:∃W,W=W5.setCell ⟨g,4,none⟩ (.int .i64 0):=⟨_,rfl⟩;have hC:Chg (fun b=>b=g) W5 WQ:=by rw [hWQ];exact Chg.setCell (S:=fun b=>b=g) (Chg.refl _ _) rfl _
    replace T:Box WQ g [.int .i64 4,nk,fr,te,.int .i64 0,.int .i64 0,(),.int .i64 0,false]:=by rw [hWQ];exact T.set 4 _ (by simp)
    replace X:=hC.box X (by omega);replace M:=hC.box M (by omega);replace Y:=hC.box Y (by omega);replace Z:=hC.box Z (by omega);replace OL:=hC.owns OL (fun b hb hh=>by have:=apb b hb;have hh:b=g:=hh;omega);replace hB:=hB.trans (hC.b1 hB.size (by omega));rw [←hWQ];clear hWQ hC;clear xl x0 x1 x2 x3 x4 x5 x6 x7 x8;clear ttl tt0 tt1 tt2 tt3 tt4 tt5 tt6 tt7 tt8;clear h0 h1 h2 h3 h4 h5 h6 h7 h8;have hzs:=hB.size;obtain⟨W9,hW9,hC3,Y3⟩:=zk_ WQ Y nk p te vo (.slice la lg.length lc) cc (0:Int) () ();have hy9:=Y.1;have hz9:=Z.1;have Z3:=hC3.box Z (by omega);have T3:=hC3.box T (by omega);have O3:=hC3.owns OL (fun b hb hh=>by have h8:=apb b hb;have hh:b=w.heap.size+1+1:=hh;omega);have hB3:=hB.trans (hC3.b1 hB.size (by omega));obtain⟨WZ,hWZ,hC4,Z4⟩:=zk_ W9 Z3 (.int .i64 4) nk fr te (0:Int) (0:Int) () (0:Int) false;have Y4:=hC4.box Y3 (by omega);have O4:=hC4.owns O3 (fun b hb hh=>by have h8:=apb b hb;have hh:b=w.heap.size+1+1+1:=hh;omega);have hB4:=hB3.trans (hC4.b1 hB3.size (by omega));unfold put9 at hW9 hWZ;have HW9:Hid _:=hW9;have HWZ:Hid _:=hWZ;clear hW9 hWZ hC3 hC4;obtain⟨xl,x0,x1,x2,x3,x4,x5,x6,x7,x8⟩:=X.e9;obtain⟨ttl,tt0,tt1,tt2,tt3,tt4,tt5,tt6,tt7,tt8⟩:=T.e9;obtain⟨yl,y0,y1,y2,y3,y4,y5,y6,y7,y8⟩:=Y.e9;obtain⟨f0,f1,f2,f3,f4,f5,f6,f7,f8⟩:=Y.f9;obtain⟨zl,z0,z1,z2,z3,z4,z5,z6,z7,z8⟩:=Z.e9;obtain⟨g0,g1,g2,g3,g4,g5,g6,g7,g8⟩:=Z.f9;clear X T Y Z Y3 Z3 T3 O3 hB hB3 OL M
    go_region
    rw [←HW9.out,←HWZ.out];clear HW9 HWZ;replace Y4:=zr_ Y4;replace Z4:=zr_ Z4;replace O4:=O4.drew;replace hB4:=hB4.drew;generalize WZ.drew=WE at*;obtain⟨rl,r0,r1,r2,r3,r4,r5,r6,r7,r8⟩:=Y4.e9;obtain⟨sl,s0,s1,s2,s3,s4,s5,s6,s7,s8⟩:=Z4.e9;clear Y4 Z4;go_wp2;exact bodyPost_ret (v:= .tuple #[.agg #[nk,p,te,vo,.slice la lg.length lc,cc,.int .i64 0,(),()],.agg #[.int .i64 4,nk,fr,te,.int .i64 0,.int .i64 0,(),.int .i64 0,false],true]) (by simp [results,Tryz.results163,go_sem,r0,r1,r2,r3,r4,r5,r6,r7,r8,s0,s1,s2,s3,s4,s5,s6,s7,s8]) rfl ⟨⟨_,rfl,O4,fun b hb=> .inl hb⟩,hB4⟩
   ·obtain rfl:ix=((q:Int)-1):=by rw [hix];simp [noIx];omega
    clear hix;obtain⟨xl,x0,x1,x2,x3,x4,x5,x6,x7,x8⟩:=X.e9;obtain⟨ttl,tt0,tt1,tt2,tt3,tt4,tt5,tt6,tt7,tt8⟩:=T.e9;obtain⟨h0,h1,h2,h3,h4,h5,h6,h7,h8⟩:=T.f9
    go_upto_region 6 with fail
    go_upto_region 8 with fail
    clear xl x0 x1 x2 x3 x4 x5 x6 x7 x8;clear ttl tt0 tt1 tt2 tt3 tt4 tt5 tt6 tt7 tt8;clear h0 h1 h2 h3 h4 h5 h6 h7 h8;obtain⟨WQ,hWQ⟩:∃W,W=W5:=⟨_,rfl⟩;rw [←hWQ] at X M Y Z T OL hB ⊢;clear hWQ;have hzs:=hB.size;obtain⟨W9,hW9,hC3,Y3⟩:=zk_ WQ Y nk p te vo (.slice la lg.length lc) cc (0:Int) () ();have hy9:=Y.1;have hz9:=Z.1;have Z3:=hC3.box Z (by omega);have T3:=hC3.box T (by omega);have O3:=hC3.owns OL (fun b hb hh=>by have h8:=apb b hb;have hh:b=w.heap.size+1+1:=hh;omega);have hB3:=hB.trans (hC3.b1 hB.size (by omega));obtain⟨WZ,hWZ,hC4,Z4⟩:=zk_ W9 Z3 (.int .i64 4) nk fr te (.int .i64 ((q:Int)-1)) (0:Int) () (0:Int) false;have Y4:=hC4.box Y3 (by omega);have O4:=hC4.owns O3 (fun b hb hh=>by have h8:=apb b hb;have hh:b=w.heap.size+1+1+1:=hh;omega);have hB4:=hB3.trans (hC4.b1 hB3.size (by omega));unfold put9 at hW9 hWZ;have HW9:Hid _:=hW9;have HWZ:Hid _:=hWZ;clear hW9 hWZ hC3 hC4;obtain⟨xl,x0,x1,x2,x3,x4,x5,x6,x7,x8⟩:=X.e9;obtain⟨ttl,tt0,tt1,tt2,tt3,tt4,tt5,tt6,tt7,tt8⟩:=T.e9;obtain⟨yl,y0,y1,y2,y3,y4,y5,y6,y7,y8⟩:=Y.e9;obtain⟨f0,f1,f2,f3,f4,f5,f6,f7,f8⟩:=Y.f9;obtain⟨zl,z0,z1,z2,z3,z4,z5,z6,z7,z8⟩:=Z.e9;obtain⟨g0,g1,g2,g3,g4,g5,g6,g7,g8⟩:=Z.f9;clear X T Y Z Y3 Z3 T3 O3 hB hB3 OL M
    go_region
    rw [←HW9.out,←HWZ.out];clear HW9 HWZ;replace Y4:=zr_ Y4;replace Z4:=zr_ Z4;replace O4:=O4.drew;replace hB4:=hB4.drew;generalize WZ.drew=WE at*;obtain⟨rl,r0,r1,r2,r3,r4,r5,r6,r7,r8⟩:=Y4.e9;obtain⟨sl,s0,s1,s2,s3,s4,s5,s6,s7,s8⟩:=Z4.e9;clear Y4 Z4;go_wp2;exact bodyPost_ret (v:= .tuple #[.agg #[nk,p,te,vo,.slice la lg.length lc,cc,.int .i64 0,(),()],.agg #[.int .i64 4,nk,fr,te,.int .i64 ((q:Int)-1),.int .i64 0,(),.int .i64 0,false],true]) (by simp [results,Tryz.results163,go_sem,r0,r1,r2,r3,r4,r5,r6,r7,r8,s0,s1,s2,s3,s4,s5,s6,s7,s8]) rfl ⟨⟨_,rfl,O4,fun b hb=> .inl hb⟩,hB4⟩
 have KT2:=fun x:WC wq.heap.size wq=>KT x.w (za_ hB x.ok) c2;have hxb:=X.1;have hmb:=M.1;have q0:=fun x:WC wq.heap.size wq=>(x.ok.cell (p:=⟨w.heap.size,0,none⟩) hxb).trans (X.2.1 0 _ rfl);have q1:=fun x:WC wq.heap.size wq=>(x.ok.cell (p:=⟨w.heap.size,1,none⟩) hxb).trans (X.2.1 1 _ rfl);have q2:=fun x:WC wq.heap.size wq=>(x.ok.cell (p:=⟨w.heap.size,2,none⟩) hxb).trans (X.2.1 2 _ rfl);have q3:=fun x:WC wq.heap.size wq=>(x.ok.cell (p:=⟨w.heap.size,3,none⟩) hxb).trans (X.2.1 3 _ rfl);have q4:=fun x:WC wq.heap.size wq=>(x.ok.cell (p:=⟨w.heap.size,4,none⟩) hxb).trans (X.2.1 4 _ rfl);have q5:=fun x:WC wq.heap.size wq=>(x.ok.cell (p:=⟨w.heap.size,5,none⟩) hxb).trans (X.2.1 5 _ rfl);have q6:=fun x:WC wq.heap.size wq=>(x.ok.cell (p:=⟨w.heap.size,6,none⟩) hxb).trans (X.2.1 6 _ rfl);have q7:=fun x:WC wq.heap.size wq=>(x.ok.cell (p:=⟨w.heap.size,7,none⟩) hxb).trans (X.2.1 7 _ rfl);have q8:=fun x:WC wq.heap.size wq=>(x.ok.cell (p:=⟨w.heap.size,8,none⟩) hxb).trans (X.2.1 8 _ rfl);have n4:=fun x:WC wq.heap.size wq=>(x.ok.cell (p:=⟨w.heap.size+1,4,none⟩) hmb).trans (M.2.1 4 _ rfl);have n5:=fun x:WC wq.heap.size wq=>(x.ok.cell (p:=⟨w.heap.size+1,5,none⟩) hmb).trans (M.2.1 5 _ rfl);have hne:Nonempty (WC wq.heap.size wq):=⟨⟨_,Below.refl _ _⟩⟩;have hgt:¬(log.length:Int)<(q:Int):=by omega
 have HTA:Hid (fb=decide (tmAt log q=be)):=by show _=_;rw [hfb];simp [fitsB,c2]
 generalize tmAt log q=ta at*;clear KT hfb;refine wp_region_calm (B:=wq.heap.size) (W:=wq) (by kernel_rfl) (by kernel_rfl) (Below.refl _ _) ?_
 repeat (go_big_quiet_step (first | (go_at_call 138;with_reducible exact yv_ (Nat.le_refl _) (KT2 _))))
 refine wpQuiet_nil ?_;intro _ hw';obtain⟨x,hx⟩:=hw';subst hx;have hbx:=x.ok;replace X:=X.below hbx;replace M:=M.below hbx;replace Y:=Y.below hbx;replace Z:=Z.below hbx;replace T:=T.below hbx;replace OL:=zd_ OL hbx;replace hB:=za_ hB hbx;clear KT2 q0 q1 q2 q3 q4 q5 q6 q7 q8 n4 n5 hne hbx hxb hmb;generalize x.w=W4 at*;clear x;by_cases c3:be=ta;rotate_left
 ·have c3b:¬ta=be:=fun e=>c3 e.symm;clear c3;have HFB:Hid (fb=false):=by show _=_;rw [HTA.out];simp [c3b]
  clear HTA;obtain rfl:lg=log:=by rw [hlg,HFB.out];rfl
  obtain rfl:cc=co:=by rw [hcc,HFB.out];rfl
  obtain rfl:fb=false:=HFB.out;clear hlg hcc hap HFB;have hwm:IntKind.i64.wrap ((q:Int)-1)=(q:Int)-1:=by rw [IntKind.wrap_i64];omega
  obtain⟨xl,x0,x1,x2,x3,x4,x5,x6,x7,x8⟩:=X.e9;obtain⟨ml,m0,m1,m2,m3,m4,m5,m6,m7,m8⟩:=M.e9;obtain⟨ttl,tt0,tt1,tt2,tt3,tt4,tt5,tt6,tt7,tt8⟩:=T.e9;obtain⟨h0,h1,h2,h3,h4,h5,h6,h7,h8⟩:=T.f9
  go_upto_region 4 with fail
  obtain⟨W5,hW5⟩:∃W,W=W4.setCell ⟨g,4,none⟩ (.int .i64 ((q:Int)-1)):=⟨_,rfl⟩;have hC:Chg (fun b=>b=g) W4 W5:=by rw [hW5];exact Chg.setCell (S:=fun b=>b=g) (Chg.refl _ _) rfl _
  replace T:Box W5 g [.int .i64 4,nk,fr,te,.int .i64 ((q:Int)-1),.int .i64 0,(),.int .i64 0,false]:=by rw [hW5];exact T.set 4 _ (by simp)
  replace X:=hC.box X (by omega);replace M:=hC.box M (by omega);replace Y:=hC.box Y (by omega);replace Z:=hC.box Z (by omega);replace OL:=hC.owns OL (fun b hb hh=>by have:=apb b hb;have hh:b=g:=hh;omega);replace hB:=hB.trans (hC.b1 hB.size (by omega));rw [←hW5];clear hW5 hC;clear xl x0 x1 x2 x3 x4 x5 x6 x7 x8 ml m0 m1 m2 m3 m4 m5 m6 m7 m8;clear ttl tt0 tt1 tt2 tt3 tt4 tt5 tt6 tt7 tt8;clear h0 h1 h2 h3 h4 h5 h6 h7 h8;by_cases h1:(lg.length:Int)<(q:Int)-1
  ·exact absurd h1 (by omega)
  ·by_cases hm1:(q:Int)-1<0
   ·obtain rfl:ix=0:=by rw [hix];simp [noIx];omega
    clear hix;obtain⟨xl,x0,x1,x2,x3,x4,x5,x6,x7,x8⟩:=X.e9;obtain⟨ttl,tt0,tt1,tt2,tt3,tt4,tt5,tt6,tt7,tt8⟩:=T.e9;obtain⟨h0,h1,h2,h3,h4,h5,h6,h7,h8⟩:=T.f9;have hmb:decide ((q:Int)-1<0)=true:=decide_eq_true hm1;clear hm1
    go_upto_region 8 with fail
    obtain⟨WQ,hWQ⟩:∃W,W=W5.setCell ⟨g,4,none⟩ (.int .i64 0):=⟨_,rfl⟩;have hC:Chg (fun b=>b=g) W5 WQ:=by rw [hWQ];exact Chg.setCell (S:=fun b=>b=g) (Chg.refl _ _) rfl _
    replace T:Box WQ g [.int .i64 4,nk,fr,te,.int .i64 0,.int .i64 0,(),.int .i64 0,false]:=by rw [hWQ];exact T.set 4 _ (by simp)
    replace X:=hC.box X (by omega);replace M:=hC.box M (by omega);replace Y:=hC.box Y (by omega);replace Z:=hC.box Z (by omega);replace OL:=hC.owns OL (fun b hb hh=>by have:=apb b hb;have hh:b=g:=hh;omega);replace hB:=hB.trans (hC.b1 hB.size (by omega));rw [←hWQ];clear hWQ hC;clear xl x0 x1 x2 x3 x4 x5 x6 x7 x8;clear ttl tt0 tt1 tt2 tt3 tt4 tt5 tt6 tt7 tt8;clear h0 h1 h2 h3 h4 h5 h6 h7 h8;have hzs:=hB.size;obtain⟨W9,hW9,hC3,Y3⟩:=zk_ WQ Y nk p te vo (.slice la lg.length lc) cc (0:Int) () ();have hy9:=Y.1;have hz9:=Z.1;have Z3:=hC3.box Z (by omega);have T3:=hC3.box T (by omega);have O3:=hC3.owns OL (fun b hb hh=>by have h8:=apb b hb;have hh:b=w.heap.size+1+1:=hh;omega);have hB3:=hB.trans (hC3.b1 hB.size (by omega));obtain⟨WZ,hWZ,hC4,Z4⟩:=zk_ W9 Z3 (.int .i64 4) nk fr te (0:Int) (0:Int) () (0:Int) false;have Y4:=hC4.box Y3 (by omega);have O4:=hC4.owns O3 (fun b hb hh=>by have h8:=apb b hb;have hh:b=w.heap.size+1+1+1:=hh;omega);have hB4:=hB3.trans (hC4.b1 hB3.size (by omega));unfold put9 at hW9 hWZ;have HW9:Hid _:=hW9;have HWZ:Hid _:=hWZ;clear hW9 hWZ hC3 hC4;obtain⟨xl,x0,x1,x2,x3,x4,x5,x6,x7,x8⟩:=X.e9;obtain⟨ttl,tt0,tt1,tt2,tt3,tt4,tt5,tt6,tt7,tt8⟩:=T.e9;obtain⟨yl,y0,y1,y2,y3,y4,y5,y6,y7,y8⟩:=Y.e9;obtain⟨f0,f1,f2,f3,f4,f5,f6,f7,f8⟩:=Y.f9;obtain⟨zl,z0,z1,z2,z3,z4,z5,z6,z7,z8⟩:=Z.e9;obtain⟨g0,g1,g2,g3,g4,g5,g6,g7,g8⟩:=Z.f9;clear X T Y Z Y3 Z3 T3 O3 hB hB3 OL M
    go_region
    rw [←HW9.out,←HWZ.out];clear HW9 HWZ;replace Y4:=zr_ Y4;replace Z4:=zr_ Z4;replace O4:=O4.drew;replace hB4:=hB4.drew;generalize WZ.drew=WE at*;obtain⟨rl,r0,r1,r2,r3,r4,r5,r6,r7,r8⟩:=Y4.e9;obtain⟨sl,s0,s1,s2,s3,s4,s5,s6,s7,s8⟩:=Z4.e9;clear Y4 Z4;go_wp2;exact bodyPost_ret (v:= .tuple #[.agg #[nk,p,te,vo,.slice la lg.length lc,cc,.int .i64 0,(),()],.agg #[.int .i64 4,nk,fr,te,.int .i64 0,.int .i64 0,(),.int .i64 0,false],true]) (by simp [results,Tryz.results163,go_sem,r0,r1,r2,r3,r4,r5,r6,r7,r8,s0,s1,s2,s3,s4,s5,s6,s7,s8]) rfl ⟨⟨_,rfl,O4,fun b hb=> .inl hb⟩,hB4⟩
   ·obtain rfl:ix=((q:Int)-1):=by rw [hix];simp [noIx];omega
    clear hix;obtain⟨xl,x0,x1,x2,x3,x4,x5,x6,x7,x8⟩:=X.e9;obtain⟨ttl,tt0,tt1,tt2,tt3,tt4,tt5,tt6,tt7,tt8⟩:=T.e9;obtain⟨h0,h1,h2,h3,h4,h5,h6,h7,h8⟩:=T.f9
    go_upto_region 6 with fail
    go_upto_region 8 with fail
    clear xl x0 x1 x2 x3 x4 x5 x6 x7 x8;clear ttl tt0 tt1 tt2 tt3 tt4 tt5 tt6 tt7 tt8;clear h0 h1 h2 h3 h4 h5 h6 h7 h8;obtain⟨WQ,hWQ⟩:∃W,W=W5:=⟨_,rfl⟩;rw [←hWQ] at X M Y Z T OL hB ⊢;clear hWQ;have hzs:=hB.size;obtain⟨W9,hW9,hC3,Y3⟩:=zk_ WQ Y nk p te vo (.slice la lg.length lc) cc (0:Int) () ();have hy9:=Y.1;have hz9:=Z.1;have Z3:=hC3.box Z (by omega);have T3:=hC3.box T (by omega);have O3:=hC3.owns OL (fun b hb hh=>by have h8:=apb b hb;have hh:b=w.heap.size+1+1:=hh;omega);have hB3:=hB.trans (hC3.b1 hB.size (by omega));obtain⟨WZ,hWZ,hC4,Z4⟩:=zk_ W9 Z3 (.int .i64 4) nk fr te (.int .i64 ((q:Int)-1)) (0:Int) () (0:Int) false;have Y4:=hC4.box Y3 (by omega);have O4:=hC4.owns O3 (fun b hb hh=>by have h8:=apb b hb;have hh:b=w.heap.size+1+1+1:=hh;omega);have hB4:=hB3.trans (hC4.b1 hB3.size (by omega));unfold put9 at hW9 hWZ;have HW9:Hid _:=hW9;have HWZ:Hid _:=hWZ;clear hW9 hWZ hC3 hC4;obtain⟨xl,x0,x1,x2,x3,x4,x5,x6,x7,x8⟩:=X.e9;obtain⟨ttl,tt0,tt1,tt2,tt3,tt4,tt5,tt6,tt7,tt8⟩:=T.e9;obtain⟨yl,y0,y1,y2,y3,y4,y5,y6,y7,y8⟩:=Y.e9;obtain⟨f0,f1,f2,f3,f4,f5,f6,f7,f8⟩:=Y.f9;obtain⟨zl,z0,z1,z2,z3,z4,z5,z6,z7,z8⟩:=Z.e9;obtain⟨g0,g1,g2,g3,g4,g5,g6,g7,g8⟩:=Z.f9;clear X T Y Z Y3 Z3 T3 O3 hB hB3 OL M
    go_region
    rw [←HW9.out,←HWZ.out];clear HW9 HWZ;replace Y4:=zr_ Y4;replace Z4:=zr_ Z4;replace O4:=O4.drew;replace hB4:=hB4.drew;generalize WZ.drew=WE at*;obtain⟨rl,r0,r1,r2,r3,r4,r5,r6,r7,r8⟩:=Y4.e9;obtain⟨sl,s0,s1,s2,s3,s4,s5,s6,s7,s8⟩:=Z4.e9;clear Y4 Z4;go_wp2;exact bodyPost_ret (v:= .tuple #[.agg #[nk,p,te,vo,.slice la lg.length lc,cc,.int .i64 0,(),()],.agg #[.int .i64 4,nk,fr,te,.int .i64 ((q:Int)-1),.int .i64 0,(),.int .i64 0,false],true]) (by simp [results,Tryz.results163,go_sem,r0,r1,r2,r3,r4,r5,r6,r7,r8,s0,s1,s2,s3,s4,s5,s6,s7,s8]) rfl ⟨⟨_,rfl,O4,fun b hb=> .inl hb⟩,hB4⟩
 subst c3;have HFB:Hid (fb=true):=by show _=_;rw [HTA.out];simp
 clear HTA hgt;have hccx:cc=max co (min mco ((q:Int)+(es.length:Int))):=by rw [hcc,HFB.out];rfl
 have HCC:Hid (cc=max co (min mco ((q:Int)+(es.length:Int)))):=hccx;clear hccx;obtain rfl:ix=((q:Int)+(es.length:Int)):=by rw [hix,HFB.out];rfl
 have HLG0:lg=lgW log q es:=by rw [hlg,HFB.out];rfl
 have hapx:fiK log q es=es.length∨co≤(q:Int)+(fiK log q es:Int):=by
  have:=hap HFB.out;simpa [apY] using this
 have HAP:Hid (fiK log q es=es.length∨co≤(q:Int)+(fiK log q es:Int)):=hapx;clear hapx;obtain rfl:fb=true:=HFB.out;have HF:=fiK_step log es q;have HFL:=fiK_le log es q;have HFI:=fiK_in log es q c2;have HLG:Hid (lg=if fiK log q es<es.length then log.take (q+fiK log q es)++es.drop (fiK log q es) else log):=by show _=_;rw [HLG0];exact lgW_fi log es q
 generalize fiK log q es=j at*;clear hlg hcc hix hap HFB HLG0;have ELW:=HELW.out;have ENW:=he;obtain⟨_,_,hle,hlc⟩:=ELW;simp only [Value.slice.injEq,true_and] at hle;obtain⟨rfl,rfl⟩:=hle;obtain⟨_,_,hee,hec⟩:=he;simp only [Value.slice.injEq,true_and] at hee;obtain⟨rfl,rfl⟩:=hee;have ELL:ER w (.slice la log.length lc) log:=⟨_,_,rfl,hlc⟩;have EW:ER w (.slice ea es.length ec) es:=⟨_,_,rfl,hec⟩;clear ENW HELW;obtain⟨xl,x0,x1,x2,x3,x4,x5,x6,x7,x8⟩:=X.e9;obtain⟨ml,m0,m1,m2,m3,m4,m5,m6,m7,m8⟩:=M.e9;obtain⟨ttl,tt0,tt1,tt2,tt3,tt4,tt5,tt6,tt7,tt8⟩:=T.e9
 go_upto_block 0 with fail
 clear xl x0 x1 x2 x3 x4 x5 x6 x7 x8 ml m0 m1 m2 m3 m4 m5 m6 m7 m8;clear ttl tt0 tt1 tt2 tt3 tt4 tt5 tt6 tt7 tt8
 go_cut [] from 8 (fun wc=>∃(ua:Option Addr) (uc:Nat),Box wc w.heap.size [nk,p,te,vo,.slice ua lg.length uc,co,.int .i64 0,(),()]∧Box wc (w.heap.size+1) [ki,fr,dst,mte,q,be,.slice ea es.length ec,mco,ye]∧Box wc (w.heap.size+1+1) zN∧Box wc (w.heap.size+1+1+1) zM∧Box wc g [.int .i64 4,nk,fr,te,.int .i64 0,.int .i64 0,(),.int .i64 0,false]∧wc.ownsRow base 44 2 (.slice ua lg.length uc) lg.length (zx_ lg)∧(∀b,(.slice ua lg.length uc:Value).ownBlock=some b→b<w.heap.size∨g<b)∧(∀b,(.slice ua lg.length uc:Value).ownBlock=some b→(.slice la log.length lc:Value).ownBlock=some b∨w.heap.size≤b)∧Below w.heap.size w wc)
 case first=>
  go_wp2_with fail
  go_loopw [57] (fun i wr=>∃k:Nat,k≤j∧i= .int .i64 k∧Below w.heap.size w wr∧Below W4.heap.size W4 wr) (fun i _=>es.length-(intOf i).toNat)
  case atStart=>exact⟨0,Nat.zero_le _,rfl,hB,Below.refl _ _⟩
  case round=>
   obtain⟨k,hk,rfl,hBw,hBr⟩:=hrel;clear hB;replace X:=X.below hBr;replace M:=M.below hBr;replace Y:=Y.below hBr;replace Z:=Z.below hBr;replace T:=T.below hBr;replace OL:=zd_ OL hBr;have hzr:=hBr.size;have hzw:=hBw.size;by_cases hlt:k<es.length;rotate_left
   ·have hkj:Hid (j=es.length):=by show _=_;omega
    have hlgl:lg=log:=by rw [HLG.out,if_neg (by rw [hkj.out];omega)]
    have hki:¬((k:Int)<(es.length:Int)):=by omega
    have hfr:∀b,(.slice la log.length lc:Value).ownBlock=some b→(.slice la log.length lc:Value).ownBlock=some b∨w.heap.size≤b:=fun b hb=> .inl hb;clear HF HLG hlc hec ELL EW HFI HAP hkj
    go_wp2_with fail
    go_meet
    case rel=>rw [hlgl];exact⟨_,_,X,M,Y,Z,T,OL,apb,hfr,hBw⟩
   have hlt2:=hlt;have hstep:=HF k hk hlt;obtain⟨eb,eoff,rfl,heb,hcell⟩:=hec (by intro e;simp [e] at hlt);obtain⟨z0,z1⟩:=hcell k hlt;have y0:=(hBw.cell (p:=⟨eb,eoff+k*2,none⟩) heb).trans z0;have y1:=(hBw.cell (p:=⟨eb,eoff+k*2+1,none⟩) heb).trans z1;clear hec hcell z0 z1;generalize es[k]=sk at*;obtain⟨t,d⟩:=sk;dsimp only at hstep y0 y1;have hBa:=zb_ wr (.cells #[t,d] 44);have V:=Box.new wr #[t,d] 44;have hki:(k:Int)<(es.length:Int):=by omega
   have hwr:IntKind.i64.wrap ((q:Int)+(k:Int))=(q:Int)+(k:Int):=by rw [IntKind.wrap_i64];omega
   obtain⟨xl,x0,x1,x2,x3,x4,x5,x6,x7,x8⟩:=X.e9;obtain⟨ml,m0,m1,m2,m3,m4,m5,m6,m7,m8⟩:=M.e9
   go_upto_region 13 with fail
   obtain⟨W5,hW5⟩:∃W,W=wr.alloc (.cells #[t,d] 44):=⟨_,rfl⟩;obtain⟨gv,hgv⟩:∃g,g=wr.heap.size:=⟨_,rfl⟩;rw [←hW5] at hBa V;rw [←hgv] at V;replace X:=X.below hBa;replace M:=M.below hBa;replace Y:=Y.below hBa;replace Z:=Z.below hBa;replace T:=T.below hBa;replace OL:=zd_ OL hBa;replace hBw:=za_ hBw hBa;replace hBr:=za_ hBr hBa;have hz5:=hBa.size;rw [←hW5,←hgv];clear hW5 hgv hBa y0 y1 xl x0 x1 x2 x3 x4 x5 x6 x7 x8 ml m0 m1 m2 m3 m4 m5 m6 m7 m8;have v0:=V.2.1 0 _ rfl;have vl:=V.1;obtain⟨xl,x0,x1,x2,x3,x4,x5,x6,x7,x8⟩:=X.e9;obtain⟨ml,m0,m1,m2,m3,m4,m5,m6,m7,m8⟩:=M.e9;by_cases hat:q+k=log.length
   ·have hai:¬(q:Int)+(k:Int)<(log.length:Int):=by omega
    have hjk:Hid (j=k):=by
     show _=_;by_cases h:k<j
     ·have:=(hstep.1 h).1;omega
     ·omega
    clear hstep hat
    go_quiet (fail)
    have hbq:=yn_ W5 nq;replace X:=X.below hbq;replace M:=M.below hbq;replace Y:=Y.below hbq;replace Z:=Z.below hbq;replace T:=T.below hbq;replace OL:=zd_ OL hbq;replace hBw:=za_ hBw hbq;generalize W5.drewN nq=W6 at*;clear hbq xl x0 x1 x2 x3 x4 x5 x6 x7 x8 ml m0 m1 m2 m3 m4 m5 m6 m7 m8;have hlk2:Hid (lg=log.take (q+k)++es.drop k):=by show _=_;rw [HLG.out,hjk.out,if_pos hlt2]
    obtain⟨e2,SE,EE⟩:=sl_from w (some ⟨eb,eoff,none⟩) ec k es EW hce (by omega);have SL:=fun w=>sl_to la log.length lc (q+k) w (by omega);have ELW:ER w (.slice la (q+k) lc) (log.take (q+k)):=ER_to ELL (by omega);have EL6:=ELW.below hBw;have EE6:=EE.below hBw;have HLG2:Hid (lg=log.take (q+k)++es.drop k):=hlk2;have HTL:Hid ((log.take (q+k)).length=q+k):=by show _=_;rw [List.length_take];omega
    have HDL:Hid ((es.drop k).length=es.length-k):=by show _=_;simp
    have HLL:Hid (q+k+(es.length-k)=lg.length):=by show _=_;rw [hlk2.out,List.length_append,HTL.out,HDL.out]
    have SL2:∀w,(Instr.sliceAt 39 (.slice la log.length lc) none (some (.int .i64 ((q:Int)+(k:Int)))) none).run Tryz.prog w= .ok (.slice la (q+k) lc) w:=fun w=>by have:=SL w;rw [show (((q+k:Nat)):Int)=(q:Int)+(k:Int) from by omega] at this;exact this
    have hco:decide ((q:Int)+(k:Int)<co)=false:=by
     have:=HAP.out;rw [hjk.out] at this;rcases this with h | h
     ·omega
     ·simp;omega
    clear hlk2 SL EW ELL ELW EE HLG HAP HF hBr V v0 vl;obtain⟨xl,x0,x1,x2,x3,x4,x5,x6,x7,x8⟩:=X.e9
    go_upto_region 16 with fail
    clear xl x0 x1 x2 x3 x4 x5 x6 x7 x8 hco;have hB:=hBw;clear hBw;have hX6:=X.1;have hT6:=T.1;have hD:Below W6.heap.size W6 W6.drew:=(Below.refl _ _).drew;replace X:=X.below hD;replace M:=M.below hD;replace Y:=Y.below hD;replace Z:=Z.below hD;replace T:=T.below hD;replace hB:=za_ hB hD;have hB6:=hD;clear hD;refine wp_region_held_drew (S:=(fun w'=>Box w' (w.heap.size+1) [ki,fr,dst,mte,q,be,.slice (some ⟨eb,eoff,none⟩) es.length ec,mco,ye])) (by kernel_rfl) M (fun zc_=> ?_);generalize W6.drew=va at*;refine tkH 1 (.pointer (some ⟨w.heap.size,4,none⟩)) rfl ?_ ?_
    ·intro wx hSw;clear hSw zc_;go_simp
    simp only [Act.put,sA_,sB_,sC_];refine tkH 3 (.int .i64 ((q:Int)+(k:Int))) rfl ?_ ?_
    ·intro wx hSw;clear hSw zc_;go_simp
    simp only [Act.put,sA_,sB_,sC_];refine tkH 6 (.pointer (some ⟨w.heap.size+1,6,none⟩)) rfl ?_ ?_
    ·intro wx hSw;clear hSw zc_;go_simp
    simp only [Act.put,sA_,sB_,sC_];refine tkH 7 (.slice (some ⟨eb,eoff,none⟩) es.length ec) rfl ?_ ?_
    ·intro wx hSw;have hSw:Box wx (w.heap.size+1) [ki,fr,dst,mte,q,be,.slice (some ⟨eb,eoff,none⟩) es.length ec,mco,ye]:=hSw;have e:=hSw.2.1 6 _ rfl;clear zc_ hSw;go_simp
    simp only [Act.put,sA_,sB_,sC_];refine tkH 8 (.int .i64 k) rfl ?_ ?_
    ·intro wx hSw;clear hSw zc_;go_simp
    simp only [Act.put,sA_,sB_,sC_];refine tkH 9 (.slice e2 (es.length-k) (ec-k)) rfl ?_ ?_
    ·intro wx hSw;clear hSw zc_;go_simp
    simp only [Act.put,sA_,sB_,sC_];refine rd2 0 2 rfl rfl (fun K hK=> ?_) (fun K hK=> ?_)
    ·clear zc_;have O0:(va.alloc (.cells #[] 44)).ownsRow W6.heap.size 44 2 (.slice (some ⟨va.heap.size,0,none⟩) 0 0) 0 (zx_ []):=World.ownsRow_lit va #[] 0 hB6.size (by simp [maxLen]) (by simp);have hb:=zb_ va (.cells #[] 44);replace X:=X.below hb;replace M:=M.below hb;replace Y:=Y.below hb;replace Z:=Z.below hb;replace T:=T.below hb;replace hB:=za_ hB hb;replace hB6:=za_ hB6 hb;clear hb;go_simp;refine hK.out _ _ M (fun zc_=> ?_);clear hK K
     try (simp only [Act.put,sA_,sB_,sC_])
     generalize va.heap.size=gb at*;generalize va.alloc (.cells #[] 44)=vb at*;refine rd1 2 rfl (fun K hK=> ?_);clear zc_;obtain⟨xl,x0,x1,x2,x3,x4,x5,x6,x7,x8⟩:=X.e9;go_simp;refine hK.out _ vb M (fun zc_=> ?_);clear hK K xl x0 x1 x2 x3 x4 x5 x6 x7 x8
     try (simp only [Act.put,sA_,sB_,sC_])
     refine tkH 4 (.slice la (q+k) lc) rfl ?_ ?_
     ·intro wx hSw;clear hSw zc_;go_simp
     simp only [Act.put,sA_,sB_,sC_];refine rd1 5 rfl (fun K hK=> ?_);clear zc_;have hE:=EL6.below hB6;refine zF_ _ _ _ rfl rfl W6.heap.size _ 0 [] rfl O0 _ (log.take (q+k)) rfl hE (by rw [HTL.out];omega) hB6.size ?_;intro u vd O5 hgr;have gl:=zh_ O0;have hb4:Below W6.heap.size vb vd:=(Below.refl _ _).grown hgr hB6.size (fun k hk=>gl k hk);replace X:=X.under hb4 (by omega);replace M:=M.under hb4 (by omega);replace Y:=Y.under hb4 (by omega);replace Z:=Z.under hb4 (by omega);replace T:=T.under hb4 (by omega);replace hB:=hB.trans (hb4.mono (by omega));replace hB6:=hB6.trans hb4;simp only [Nat.zero_add,List.nil_append] at O5;rw [HTL.out] at O5;obtain⟨u5,v5,rfl⟩:=ze_ O5;clear O0 hE hgr gl hb4;refine hK.out _ _ M (fun zc_=> ?_);clear hK K
     try (simp only [Act.put,sA_,sB_,sC_])
     refine rd1 10 rfl (fun K hK=> ?_);clear zc_;have hE:=EE6.below hB6;refine zF_ _ _ _ rfl rfl W6.heap.size _ (q+k) (log.take (q+k)) rfl O5 _ (es.drop k) rfl hE (by rw [HDL.out];omega) hB6.size ?_;intro u ve O10 hgr;have gl:=zh_ O5;have hb4:Below W6.heap.size vd ve:=(Below.refl _ _).grown hgr hB6.size (fun k hk=>gl k hk);replace X:=X.under hb4 (by omega);replace M:=M.under hb4 (by omega);replace Y:=Y.under hb4 (by omega);replace Z:=Z.under hb4 (by omega);replace T:=T.under hb4 (by omega);replace hB:=hB.trans (hb4.mono (by omega));replace hB6:=hB6.trans hb4;rw [←HLG2.out,HDL.out,show q+k+(es.length-k)=lg.length from HLL.out] at O10;obtain⟨u7,v7,rfl⟩:=ze_ O10;clear O5 hE hgr gl hb4;refine hK.out _ _ M (fun zc_=> ?_);clear hK K
     try (simp only [Act.put,sA_,sB_,sC_])
     refine tkH 11 (.pointer (some ⟨w.heap.size,4,none⟩)) rfl ?_ ?_
     ·intro wx hSw;clear hSw zc_;go_simp
     simp only [Act.put,sA_,sB_,sC_];refine rd1 12 rfl (fun K hK=> ?_);clear zc_;obtain⟨W8,hW8⟩:∃W,W=ve.setCell ⟨w.heap.size,4,none⟩ (.slice u7 lg.length v7):=⟨_,rfl⟩;have hC:Chg (fun b=>b=w.heap.size) ve W8:=by rw [hW8];exact Chg.setCell (S:=fun b=>b=w.heap.size) (Chg.refl _ _) rfl _
     have X8:Box W8 w.heap.size [nk,p,te,vo,.slice u7 lg.length v7,co,.int .i64 0,(),()]:=by rw [hW8];exact X.set 4 _ (by simp)
     have M8:=hC.box M (by omega);have Y8:=hC.box Y (by omega);have Z8:=hC.box Z (by omega);have T8:=hC.box T (by omega);have g8:=zh_ O10;have O8:=hC.owns O10 (fun b hb hh=>by have:=g8 b hb;have hh:b=w.heap.size:=hh;omega);have B8:=hB.trans (hC.b1 hB.size (by omega));obtain⟨xl,x0,x1,x2,x3,x4,x5,x6,x7,x8⟩:=X.e9;obtain⟨f0,f1,f2,f3,f4,f5,f6,f7,f8⟩:=X.f9;clear X M Y Z T O10 hB hB6 hC;go_simp;rw [←hW8];refine hK.out _ W8 M8 (fun zc_=> ?_);clear hK K hW8 xl x0 x1 x2 x3 x4 x5 x6 x7 x8 f0 f1 f2 f3 f4 f5 f6 f7 f8
     try (simp only [Act.put,sA_,sB_,sC_])
     clear zc_;refine wpAnyH_done (by kernel_rfl) ?_ _
     go_wp2_with fail
     go_meet
     case rel=>exact⟨_,_,X8,M8,Y8,Z8,T8,zf_ O8 (by omega),fun b hb=> .inr (by have:=g8 b hb;omega),fun b hb=> .inr (by have:=g8 b hb;omega),B8⟩
    ·clear zc_;obtain⟨xl,x0,x1,x2,x3,x4,x5,x6,x7,x8⟩:=X.e9;go_simp;refine hK.out _ va M (fun zc_=> ?_);clear hK K xl x0 x1 x2 x3 x4 x5 x6 x7 x8
     try (simp only [Act.put,sA_,sB_,sC_])
     refine tkH 4 (.slice la (q+k) lc) rfl ?_ ?_
     ·intro wx hSw;clear hSw zc_;go_simp
     simp only [Act.put,sA_,sB_,sC_];refine rd1 0 rfl (fun K hK=> ?_);clear zc_;have O0:(va.alloc (.cells #[] 44)).ownsRow W6.heap.size 44 2 (.slice (some ⟨va.heap.size,0,none⟩) 0 0) 0 (zx_ []):=World.ownsRow_lit va #[] 0 hB6.size (by simp [maxLen]) (by simp);have hb:=zb_ va (.cells #[] 44);replace X:=X.below hb;replace M:=M.below hb;replace Y:=Y.below hb;replace Z:=Z.below hb;replace T:=T.below hb;replace hB:=za_ hB hb;replace hB6:=za_ hB6 hb;clear hb;go_simp;refine hK.out _ _ M (fun zc_=> ?_);clear hK K
     try (simp only [Act.put,sA_,sB_,sC_])
     generalize va.heap.size=gb at*;generalize va.alloc (.cells #[] 44)=vb at*;refine rd1 5 rfl (fun K hK=> ?_);clear zc_;have hE:=EL6.below hB6;refine zF_ _ _ _ rfl rfl W6.heap.size _ 0 [] rfl O0 _ (log.take (q+k)) rfl hE (by rw [HTL.out];omega) hB6.size ?_;intro u vd O5 hgr;have gl:=zh_ O0;have hb4:Below W6.heap.size vb vd:=(Below.refl _ _).grown hgr hB6.size (fun k hk=>gl k hk);replace X:=X.under hb4 (by omega);replace M:=M.under hb4 (by omega);replace Y:=Y.under hb4 (by omega);replace Z:=Z.under hb4 (by omega);replace T:=T.under hb4 (by omega);replace hB:=hB.trans (hb4.mono (by omega));replace hB6:=hB6.trans hb4;simp only [Nat.zero_add,List.nil_append] at O5;rw [HTL.out] at O5;obtain⟨u5,v5,rfl⟩:=ze_ O5;clear O0 hE hgr gl hb4;refine hK.out _ _ M (fun zc_=> ?_);clear hK K
     try (simp only [Act.put,sA_,sB_,sC_])
     refine rd1 10 rfl (fun K hK=> ?_);clear zc_;have hE:=EE6.below hB6;refine zF_ _ _ _ rfl rfl W6.heap.size _ (q+k) (log.take (q+k)) rfl O5 _ (es.drop k) rfl hE (by rw [HDL.out];omega) hB6.size ?_;intro u ve O10 hgr;have gl:=zh_ O5;have hb4:Below W6.heap.size vd ve:=(Below.refl _ _).grown hgr hB6.size (fun k hk=>gl k hk);replace X:=X.under hb4 (by omega);replace M:=M.under hb4 (by omega);replace Y:=Y.under hb4 (by omega);replace Z:=Z.under hb4 (by omega);replace T:=T.under hb4 (by omega);replace hB:=hB.trans (hb4.mono (by omega));replace hB6:=hB6.trans hb4;rw [←HLG2.out,HDL.out,show q+k+(es.length-k)=lg.length from HLL.out] at O10;obtain⟨u7,v7,rfl⟩:=ze_ O10;clear O5 hE hgr gl hb4;refine hK.out _ _ M (fun zc_=> ?_);clear hK K
     try (simp only [Act.put,sA_,sB_,sC_])
     refine tkH 11 (.pointer (some ⟨w.heap.size,4,none⟩)) rfl ?_ ?_
     ·intro wx hSw;clear hSw zc_;go_simp
     simp only [Act.put,sA_,sB_,sC_];refine rd1 12 rfl (fun K hK=> ?_);clear zc_;obtain⟨W8,hW8⟩:∃W,W=ve.setCell ⟨w.heap.size,4,none⟩ (.slice u7 lg.length v7):=⟨_,rfl⟩;have hC:Chg (fun b=>b=w.heap.size) ve W8:=by rw [hW8];exact Chg.setCell (S:=fun b=>b=w.heap.size) (Chg.refl _ _) rfl _
     have X8:Box W8 w.heap.size [nk,p,te,vo,.slice u7 lg.length v7,co,.int .i64 0,(),()]:=by rw [hW8];exact X.set 4 _ (by simp)
     have M8:=hC.box M (by omega);have Y8:=hC.box Y (by omega);have Z8:=hC.box Z (by omega);have T8:=hC.box T (by omega);have g8:=zh_ O10;have O8:=hC.owns O10 (fun b hb hh=>by have:=g8 b hb;have hh:b=w.heap.size:=hh;omega);have B8:=hB.trans (hC.b1 hB.size (by omega));obtain⟨xl,x0,x1,x2,x3,x4,x5,x6,x7,x8⟩:=X.e9;obtain⟨f0,f1,f2,f3,f4,f5,f6,f7,f8⟩:=X.f9;clear X M Y Z T O10 hB hB6 hC;go_simp;rw [←hW8];refine hK.out _ W8 M8 (fun zc_=> ?_);clear hK K hW8 xl x0 x1 x2 x3 x4 x5 x6 x7 x8 f0 f1 f2 f3 f4 f5 f6 f7 f8
     try (simp only [Act.put,sA_,sB_,sC_])
     clear zc_;refine wpAnyH_done (by kernel_rfl) ?_ _
     go_wp2_with fail
     go_meet
     case rel=>exact⟨_,_,X8,M8,Y8,Z8,T8,zf_ O8 (by omega),fun b hb=> .inr (by have:=g8 b hb;omega),fun b hb=> .inr (by have:=g8 b hb;omega),B8⟩
   ·have hlk:q+k<log.length:=by omega
    obtain⟨lb,loff,rfl,hlb,hcl2⟩:=hlc (by intro e;simp [e] at hlk);obtain⟨z0,_⟩:=hcl2 (q+k) hlk;have y0:=(hBw.cell (p:=⟨lb,loff+(q+k)*2,none⟩) hlb).trans z0;clear hcl2 z0 hlc;have hgd:(log.getD (q+k) En.zero).t=log[q+k].t:=by simp [hlk]
    rw [hgd] at hstep;clear hgd;generalize log[q+k].t=lt at*;have hai2:(q:Int)+(k:Int)<(log.length:Int):=by omega
    have hai3:(0:Int)≤(q:Int)+(k:Int):=by omega
    have hai4:((q:Int)+(k:Int)).toNat=q+k:=by omega
    clear hat;by_cases htt:lt=t
    ·subst htt;have hjk:Hid (k+1≤j):=by show _≤_;have:=hstep.2 ⟨hlk,rfl⟩;omega
     clear hstep
     go_quiet (fail)
     have hbq:=yn_ W5 nq;replace hBw:=za_ hBw hbq;replace hBr:=za_ hBr hbq;generalize W5.drewN nq=W6 at*;clear hbq X M Y Z T OL V v0 vl y0 xl x0 x1 x2 x3 x4 x5 x6 x7 x8 ml m0 m1 m2 m3 m4 m5 m6 m7 m8 HLG ELL EW HAP HF;go_wp2;go_roundw
     case rel=>exact⟨k+1,hjk.out,by go_num,hBw,hBr⟩
     case measure=>simp [intOf];omega
    ·have hjk:Hid (j=k):=by
      show _=_;by_cases h:k<j
      ·exact absurd (hstep.1 h).2 htt
      ·omega
     clear hstep
     go_quiet (fail)
     have hbq:=yn_ W5 nq;replace X:=X.below hbq;replace M:=M.below hbq;replace Y:=Y.below hbq;replace Z:=Z.below hbq;replace T:=T.below hbq;replace OL:=zd_ OL hbq;replace hBw:=za_ hBw hbq;generalize W5.drewN nq=W6 at*;clear hbq y0 xl x0 x1 x2 x3 x4 x5 x6 x7 x8 ml m0 m1 m2 m3 m4 m5 m6 m7 m8;have hlk2:Hid (lg=log.take (q+k)++es.drop k):=by show _=_;rw [HLG.out,hjk.out,if_pos hlt2]
     obtain⟨e2,SE,EE⟩:=sl_from w (some ⟨eb,eoff,none⟩) ec k es EW hce (by omega);have SL:=fun w=>sl_to (some ⟨lb,loff,none⟩) log.length lc (q+k) w (by omega);have ELW:ER w (.slice (some ⟨lb,loff,none⟩) (q+k) lc) (log.take (q+k)):=ER_to ELL (by omega);have EL6:=ELW.below hBw;have EE6:=EE.below hBw;have HLG2:Hid (lg=log.take (q+k)++es.drop k):=hlk2;have HTL:Hid ((log.take (q+k)).length=q+k):=by show _=_;rw [List.length_take];omega
     have HDL:Hid ((es.drop k).length=es.length-k):=by show _=_;simp
     have HLL:Hid (q+k+(es.length-k)=lg.length):=by show _=_;rw [hlk2.out,List.length_append,HTL.out,HDL.out]
     have SL2:∀w,(Instr.sliceAt 39 (.slice (some ⟨lb,loff,none⟩) log.length lc) none (some (.int .i64 ((q:Int)+(k:Int)))) none).run Tryz.prog w= .ok (.slice (some ⟨lb,loff,none⟩) (q+k) lc) w:=fun w=>by have:=SL w;rw [show (((q+k:Nat)):Int)=(q:Int)+(k:Int) from by omega] at this;exact this
     have hco:decide ((q:Int)+(k:Int)<co)=false:=by
      have:=HAP.out;rw [hjk.out] at this;rcases this with h | h
      ·omega
      ·simp;omega
     clear hlk2 SL EW ELL ELW EE HLG HAP HF hBr V v0 vl;obtain⟨xl,x0,x1,x2,x3,x4,x5,x6,x7,x8⟩:=X.e9
     go_upto_region 16 with fail
     clear xl x0 x1 x2 x3 x4 x5 x6 x7 x8 hco;have hB:=hBw;clear hBw;have hX6:=X.1;have hT6:=T.1;have hD:Below W6.heap.size W6 W6.drew:=(Below.refl _ _).drew;replace X:=X.below hD;replace M:=M.below hD;replace Y:=Y.below hD;replace Z:=Z.below hD;replace T:=T.below hD;replace hB:=za_ hB hD;have hB6:=hD;clear hD;refine wp_region_held_drew (S:=(fun w'=>Box w' (w.heap.size+1) [ki,fr,dst,mte,q,be,.slice (some ⟨eb,eoff,none⟩) es.length ec,mco,ye])) (by kernel_rfl) M (fun zc_=> ?_);generalize W6.drew=va at*;refine tkH 1 (.pointer (some ⟨w.heap.size,4,none⟩)) rfl ?_ ?_
     ·intro wx hSw;clear hSw zc_;go_simp
     simp only [Act.put,sA_,sB_,sC_];refine tkH 3 (.int .i64 ((q:Int)+(k:Int))) rfl ?_ ?_
     ·intro wx hSw;clear hSw zc_;go_simp
     simp only [Act.put,sA_,sB_,sC_];refine tkH 6 (.pointer (some ⟨w.heap.size+1,6,none⟩)) rfl ?_ ?_
     ·intro wx hSw;clear hSw zc_;go_simp
     simp only [Act.put,sA_,sB_,sC_];refine tkH 7 (.slice (some ⟨eb,eoff,none⟩) es.length ec) rfl ?_ ?_
     ·intro wx hSw;have hSw:Box wx (w.heap.size+1) [ki,fr,dst,mte,q,be,.slice (some ⟨eb,eoff,none⟩) es.length ec,mco,ye]:=hSw;have e:=hSw.2.1 6 _ rfl;clear zc_ hSw;go_simp
     simp only [Act.put,sA_,sB_,sC_];refine tkH 8 (.int .i64 k) rfl ?_ ?_
     ·intro wx hSw;clear hSw zc_;go_simp
     simp only [Act.put,sA_,sB_,sC_];refine tkH 9 (.slice e2 (es.length-k) (ec-k)) rfl ?_ ?_
     ·intro wx hSw;clear hSw zc_;go_simp
     simp only [Act.put,sA_,sB_,sC_];refine rd2 0 2 rfl rfl (fun K hK=> ?_) (fun K hK=> ?_)
     ·clear zc_;have O0:(va.alloc (.cells #[] 44)).ownsRow W6.heap.size 44 2 (.slice (some ⟨va.heap.size,0,none⟩) 0 0) 0 (zx_ []):=World.ownsRow_lit va #[] 0 hB6.size (by simp [maxLen]) (by simp);have hb:=zb_ va (.cells #[] 44);replace X:=X.below hb;replace M:=M.below hb;replace Y:=Y.below hb;replace Z:=Z.below hb;replace T:=T.below hb;replace hB:=za_ hB hb;replace hB6:=za_ hB6 hb;clear hb;go_simp;refine hK.out _ _ M (fun zc_=> ?_);clear hK K
      try (simp only [Act.put,sA_,sB_,sC_])
      generalize va.heap.size=gb at*;generalize va.alloc (.cells #[] 44)=vb at*;refine rd1 2 rfl (fun K hK=> ?_);clear zc_;obtain⟨xl,x0,x1,x2,x3,x4,x5,x6,x7,x8⟩:=X.e9;go_simp;refine hK.out _ vb M (fun zc_=> ?_);clear hK K xl x0 x1 x2 x3 x4 x5 x6 x7 x8
      try (simp only [Act.put,sA_,sB_,sC_])
      refine tkH 4 (.slice (some ⟨lb,loff,none⟩) (q+k) lc) rfl ?_ ?_
      ·intro wx hSw;clear hSw zc_;go_simp
      simp only [Act.put,sA_,sB_,sC_];refine rd1 5 rfl (fun K hK=> ?_);clear zc_;have hE:=EL6.below hB6;refine zF_ _ _ _ rfl rfl W6.heap.size _ 0 [] rfl O0 _ (log.take (q+k)) rfl hE (by rw [HTL.out];omega) hB6.size ?_;intro u vd O5 hgr;have gl:=zh_ O0;have hb4:Below W6.heap.size vb vd:=(Below.refl _ _).grown hgr hB6.size (fun k hk=>gl k hk);replace X:=X.under hb4 (by omega);replace M:=M.under hb4 (by omega);replace Y:=Y.under hb4 (by omega);replace Z:=Z.under hb4 (by omega);replace T:=T.under hb4 (by omega);replace hB:=hB.trans (hb4.mono (by omega));replace hB6:=hB6.trans hb4;simp only [Nat.zero_add,List.nil_append] at O5;rw [HTL.out] at O5;obtain⟨u5,v5,rfl⟩:=ze_ O5;clear O0 hE hgr gl hb4;refine hK.out _ _ M (fun zc_=> ?_);clear hK K
      try (simp only [Act.put,sA_,sB_,sC_])
      refine rd1 10 rfl (fun K hK=> ?_);clear zc_;have hE:=EE6.below hB6;refine zF_ _ _ _ rfl rfl W6.heap.size _ (q+k) (log.take (q+k)) rfl O5 _ (es.drop k) rfl hE (by rw [HDL.out];omega) hB6.size ?_;intro u ve O10 hgr;have gl:=zh_ O5;have hb4:Below W6.heap.size vd ve:=(Below.refl _ _).grown hgr hB6.size (fun k hk=>gl k hk);replace X:=X.under hb4 (by omega);replace M:=M.under hb4 (by omega);replace Y:=Y.under hb4 (by omega);replace Z:=Z.under hb4 (by omega);replace T:=T.under hb4 (by omega);replace hB:=hB.trans (hb4.mono (by omega));replace hB6:=hB6.trans hb4;rw [←HLG2.out,HDL.out,show q+k+(es.length-k)=lg.length from HLL.out] at O10;obtain⟨u7,v7,rfl⟩:=ze_ O10;clear O5 hE hgr gl hb4;refine hK.out _ _ M (fun zc_=> ?_);clear hK K
      try (simp only [Act.put,sA_,sB_,sC_])
      refine tkH 11 (.pointer (some ⟨w.heap.size,4,none⟩)) rfl ?_ ?_
      ·intro wx hSw;clear hSw zc_;go_simp
      simp only [Act.put,sA_,sB_,sC_];refine rd1 12 rfl (fun K hK=> ?_);clear zc_;obtain⟨W8,hW8⟩:∃W,W=ve.setCell ⟨w.heap.size,4,none⟩ (.slice u7 lg.length v7):=⟨_,rfl⟩;have hC:Chg (fun b=>b=w.heap.size) ve W8:=by rw [hW8];exact Chg.setCell (S:=fun b=>b=w.heap.size) (Chg.refl _ _) rfl _
      have X8:Box W8 w.heap.size [nk,p,te,vo,.slice u7 lg.length v7,co,.int .i64 0,(),()]:=by rw [hW8];exact X.set 4 _ (by simp)
      have M8:=hC.box M (by omega);have Y8:=hC.box Y (by omega);have Z8:=hC.box Z (by omega);have T8:=hC.box T (by omega);have g8:=zh_ O10;have O8:=hC.owns O10 (fun b hb hh=>by have:=g8 b hb;have hh:b=w.heap.size:=hh;omega);have B8:=hB.trans (hC.b1 hB.size (by omega));obtain⟨xl,x0,x1,x2,x3,x4,x5,x6,x7,x8⟩:=X.e9;obtain⟨f0,f1,f2,f3,f4,f5,f6,f7,f8⟩:=X.f9;clear X M Y Z T O10 hB hB6 hC;go_simp;rw [←hW8];refine hK.out _ W8 M8 (fun zc_=> ?_);clear hK K hW8 xl x0 x1 x2 x3 x4 x5 x6 x7 x8 f0 f1 f2 f3 f4 f5 f6 f7 f8
      try (simp only [Act.put,sA_,sB_,sC_])
      clear zc_;refine wpAnyH_done (by kernel_rfl) ?_ _
      go_wp2_with fail
      go_meet
      case rel=>exact⟨_,_,X8,M8,Y8,Z8,T8,zf_ O8 (by omega),fun b hb=> .inr (by have:=g8 b hb;omega),fun b hb=> .inr (by have:=g8 b hb;omega),B8⟩
     ·clear zc_;obtain⟨xl,x0,x1,x2,x3,x4,x5,x6,x7,x8⟩:=X.e9;go_simp;refine hK.out _ va M (fun zc_=> ?_);clear hK K xl x0 x1 x2 x3 x4 x5 x6 x7 x8
      try (simp only [Act.put,sA_,sB_,sC_])
      refine tkH 4 (.slice (some ⟨lb,loff,none⟩) (q+k) lc) rfl ?_ ?_
      ·intro wx hSw;clear hSw zc_;go_simp
      simp only [Act.put,sA_,sB_,sC_];refine rd1 0 rfl (fun K hK=> ?_);clear zc_;have O0:(va.alloc (.cells #[] 44)).ownsRow W6.heap.size 44 2 (.slice (some ⟨va.heap.size,0,none⟩) 0 0) 0 (zx_ []):=World.ownsRow_lit va #[] 0 hB6.size (by simp [maxLen]) (by simp);have hb:=zb_ va (.cells #[] 44);replace X:=X.below hb;replace M:=M.below hb;replace Y:=Y.below hb;replace Z:=Z.below hb;replace T:=T.below hb;replace hB:=za_ hB hb;replace hB6:=za_ hB6 hb;clear hb;go_simp;refine hK.out _ _ M (fun zc_=> ?_);clear hK K
      try (simp only [Act.put,sA_,sB_,sC_])
      generalize va.heap.size=gb at*;generalize va.alloc (.cells #[] 44)=vb at*;refine rd1 5 rfl (fun K hK=> ?_);clear zc_;have hE:=EL6.below hB6;refine zF_ _ _ _ rfl rfl W6.heap.size _ 0 [] rfl O0 _ (log.take (q+k)) rfl hE (by rw [HTL.out];omega) hB6.size ?_;intro u vd O5 hgr;have gl:=zh_ O0;have hb4:Below W6.heap.size vb vd:=(Below.refl _ _).grown hgr hB6.size (fun k hk=>gl k hk);replace X:=X.under hb4 (by omega);replace M:=M.under hb4 (by omega);replace Y:=Y.under hb4 (by omega);replace Z:=Z.under hb4 (by omega);replace T:=T.under hb4 (by omega);replace hB:=hB.trans (hb4.mono (by omega));replace hB6:=hB6.trans hb4;simp only [Nat.zero_add,List.nil_append] at O5;rw [HTL.out] at O5;obtain⟨u5,v5,rfl⟩:=ze_ O5;clear O0 hE hgr gl hb4;refine hK.out _ _ M (fun zc_=> ?_);clear hK K
      try (simp only [Act.put,sA_,sB_,sC_])
      refine rd1 10 rfl (fun K hK=> ?_);clear zc_;have hE:=EE6.below hB6;refine zF_ _ _ _ rfl rfl W6.heap.size _ (q+k) (log.take (q+k)) rfl O5 _ (es.drop k) rfl hE (by rw [HDL.out];omega) hB6.size ?_;intro u ve O10 hgr;have gl:=zh_ O5;have hb4:Below W6.heap.size vd ve:=(Below.refl _ _).grown hgr hB6.size (fun k hk=>gl k hk);replace X:=X.under hb4 (by omega);replace M:=M.under hb4 (by omega);replace Y:=Y.under hb4 (by omega);replace Z:=Z.under hb4 (by omega);replace T:=T.under hb4 (by omega);replace hB:=hB.trans (hb4.mono (by omega));replace hB6:=hB6.trans hb4;rw [←HLG2.out,HDL.out,show q+k+(es.length-k)=lg.length from HLL.out] at O10;obtain⟨u7,v7,rfl⟩:=ze_ O10;clear O5 hE hgr gl hb4;refine hK.out _ _ M (fun zc_=> ?_);clear hK K
      try (simp only [Act.put,sA_,sB_,sC_])
      refine tkH 11 (.pointer (some ⟨w.heap.size,4,none⟩)) rfl ?_ ?_
      ·intro wx hSw;clear hSw zc_;go_simp
      simp only [Act.put,sA_,sB_,sC_];refine rd1 12 rfl (fun K hK=> ?_);clear zc_;obtain⟨W8,hW8⟩:∃W,W=ve.setCell ⟨w.heap.size,4,none⟩ (.slice u7 lg.length v7):=⟨_,rfl⟩;have hC:Chg (fun b=>b=w.heap.size) ve W8:=by rw [hW8];exact Chg.setCell (S:=fun b=>b=w.heap.size) (Chg.refl _ _) rfl _
      have X8:Box W8 w.heap.size [nk,p,te,vo,.slice u7 lg.length v7,co,.int .i64 0,(),()]:=by rw [hW8];exact X.set 4 _ (by simp)
      have M8:=hC.box M (by omega);have Y8:=hC.box Y (by omega);have Z8:=hC.box Z (by omega);have T8:=hC.box T (by omega);have g8:=zh_ O10;have O8:=hC.owns O10 (fun b hb hh=>by have:=g8 b hb;have hh:b=w.heap.size:=hh;omega);have B8:=hB.trans (hC.b1 hB.size (by omega));obtain⟨xl,x0,x1,x2,x3,x4,x5,x6,x7,x8⟩:=X.e9;obtain⟨f0,f1,f2,f3,f4,f5,f6,f7,f8⟩:=X.f9;clear X M Y Z T O10 hB hB6 hC;go_simp;rw [←hW8];refine hK.out _ W8 M8 (fun zc_=> ?_);clear hK K hW8 xl x0 x1 x2 x3 x4 x5 x6 x7 x8 f0 f1 f2 f3 f4 f5 f6 f7 f8
      try (simp only [Act.put,sA_,sB_,sC_])
      clear zc_;refine wpAnyH_done (by kernel_rfl) ?_ _
      go_wp2_with fail
      go_meet
      case rel=>exact⟨_,_,X8,M8,Y8,Z8,T8,zf_ O8 (by omega),fun b hb=> .inr (by have:=g8 b hb;omega),fun b hb=> .inr (by have:=g8 b hb;omega),B8⟩
 case rest=>
  clear X M Y Z T OL hB apb HLG HF HFL HFI HAP hlc hec ELL EW;obtain⟨ua,uc,X,M,Y,Z,T,OL,apb,hfr,hB⟩:=hcut;have hzw:=hB.size;have hx9:=X.1;have hg9:=T.1;have hwp:IntKind.i64.wrap ((q:Int)+(es.length:Int))=(q:Int)+(es.length:Int):=by rw [IntKind.wrap_i64];omega
  obtain⟨xl,x0,x1,x2,x3,x4,x5,x6,x7,x8⟩:=X.e9;obtain⟨ml,m0,m1,m2,m3,m4,m5,m6,m7,m8⟩:=M.e9;obtain⟨ttl,tt0,tt1,tt2,tt3,tt4,tt5,tt6,tt7,tt8⟩:=T.e9;obtain⟨h0,h1,h2,h3,h4,h5,h6,h7,h8⟩:=T.f9
  go_upto_region 20 with fail
  obtain⟨W7,hW7⟩:∃W,W=(wc.setCell ⟨g,8,none⟩ (.bool true)).setCell ⟨g,4,none⟩ (.int .i64 ((q:Int)+(es.length:Int))):=⟨_,rfl⟩;have hC:Chg (fun b=>b=g) wc W7:=by rw [hW7];exact Chg.setCell (S:=fun b=>b=g) (Chg.setCell (S:=fun b=>b=g) (Chg.refl _ _) rfl _) rfl _
  replace T:Box W7 g [.int .i64 4,nk,fr,te,.int .i64 ((q:Int)+(es.length:Int)),.int .i64 0,(),.int .i64 0,true]:=by rw [hW7];exact (T.set 8 _ (by simp)).set 4 _ (by simp)
  replace X:=hC.box X (by omega);replace M:=hC.box M (by omega);replace Y:=hC.box Y (by omega);replace Z:=hC.box Z (by omega);replace OL:=hC.owns OL (fun b hb hh=>by have:=apb b hb;have hh:b=g:=hh;omega);replace hB:=hB.trans (hC.b1 hB.size (by omega));rw [←hW7];clear hW7 hC;clear xl x0 x1 x2 x3 x4 x5 x6 x7 x8 ml m0 m1 m2 m3 m4 m5 m6 m7 m8;clear ttl tt0 tt1 tt2 tt3 tt4 tt5 tt6 tt7 tt8;clear h0 h1 h2 h3 h4 h5 h6 h7 h8;by_cases ha:((q:Int)+(es.length:Int))<mco
  ·by_cases hb:co<((q:Int)+(es.length:Int))
   ·obtain rfl:cc=((q:Int)+(es.length:Int)):=by have hq:=HCC.out;omega
    clear HCC;obtain⟨xl,x0,x1,x2,x3,x4,x5,x6,x7,x8⟩:=X.e9;obtain⟨ml,m0,m1,m2,m3,m4,m5,m6,m7,m8⟩:=M.e9;obtain⟨ttl,tt0,tt1,tt2,tt3,tt4,tt5,tt6,tt7,tt8⟩:=T.e9;obtain⟨e0,e1,e2,e3,e4,e5,e6,e7,e8⟩:=X.f9
    go_upto_region 25 with fail
    obtain⟨WQ,hWQ⟩:∃W,W=W7.setCell ⟨w.heap.size,5,none⟩ (.int .i64 ((q:Int)+(es.length:Int))):=⟨_,rfl⟩;have hC:Chg (fun b=>b=w.heap.size) W7 WQ:=by rw [hWQ];exact Chg.setCell (S:=fun b=>b=w.heap.size) (Chg.refl _ _) rfl _
    have hx8:=X.1;replace X:Box WQ w.heap.size [nk,p,te,vo,.slice ua lg.length uc,.int .i64 ((q:Int)+(es.length:Int)),.int .i64 0,(),()]:=by rw [hWQ];exact X.set 5 _ (by simp)
    replace M:=hC.box M (by omega);replace Y:=hC.box Y (by omega);replace Z:=hC.box Z (by omega);replace T:=hC.box T (by omega);replace OL:=hC.owns OL (fun b hb hh=>by have:=apb b hb;have hh:b=w.heap.size:=hh;omega);replace hB:=hB.trans (hC.b1 hB.size (by omega));rw [←hWQ];clear hWQ hC;clear xl x0 x1 x2 x3 x4 x5 x6 x7 x8 ml m0 m1 m2 m3 m4 m5 m6 m7 m8;clear ttl tt0 tt1 tt2 tt3 tt4 tt5 tt6 tt7 tt8;clear e0 e1 e2 e3 e4 e5 e6 e7 e8;have hzs:=hB.size;obtain⟨W9,hW9,hC3,Y3⟩:=zk_ WQ Y nk p te vo (.slice ua lg.length uc) (.int .i64 ((q:Int)+(es.length:Int))) (0:Int) () ();have hy9:=Y.1;have hz9:=Z.1;have Z3:=hC3.box Z (by omega);have T3:=hC3.box T (by omega);have O3:=hC3.owns OL (fun b hb hh=>by have h8:=apb b hb;have hh:b=w.heap.size+1+1:=hh;omega);have hB3:=hB.trans (hC3.b1 hB.size (by omega));obtain⟨WZ,hWZ,hC4,Z4⟩:=zk_ W9 Z3 (.int .i64 4) nk fr te (.int .i64 ((q:Int)+(es.length:Int))) (0:Int) () (0:Int) true;have Y4:=hC4.box Y3 (by omega);have O4:=hC4.owns O3 (fun b hb hh=>by have h8:=apb b hb;have hh:b=w.heap.size+1+1+1:=hh;omega);have hB4:=hB3.trans (hC4.b1 hB3.size (by omega));unfold put9 at hW9 hWZ;have HW9:Hid _:=hW9;have HWZ:Hid _:=hWZ;clear hW9 hWZ hC3 hC4;obtain⟨xl,x0,x1,x2,x3,x4,x5,x6,x7,x8⟩:=X.e9;obtain⟨ttl,tt0,tt1,tt2,tt3,tt4,tt5,tt6,tt7,tt8⟩:=T.e9;obtain⟨yl,y0,y1,y2,y3,y4,y5,y6,y7,y8⟩:=Y.e9;obtain⟨f0,f1,f2,f3,f4,f5,f6,f7,f8⟩:=Y.f9;obtain⟨zl,z0,z1,z2,z3,z4,z5,z6,z7,z8⟩:=Z.e9;obtain⟨g0,g1,g2,g3,g4,g5,g6,g7,g8⟩:=Z.f9;clear X T Y Z Y3 Z3 T3 O3 hB hB3 OL M
    go_region
    rw [←HW9.out,←HWZ.out];clear HW9 HWZ;replace Y4:=zr_ Y4;replace Z4:=zr_ Z4;replace O4:=O4.drew;replace hB4:=hB4.drew;generalize WZ.drew=WE at*;obtain⟨rl,r0,r1,r2,r3,r4,r5,r6,r7,r8⟩:=Y4.e9;obtain⟨sl,s0,s1,s2,s3,s4,s5,s6,s7,s8⟩:=Z4.e9;clear Y4 Z4;go_wp2;exact bodyPost_ret (v:= .tuple #[.agg #[nk,p,te,vo,.slice ua lg.length uc,.int .i64 ((q:Int)+(es.length:Int)),.int .i64 0,(),()],.agg #[.int .i64 4,nk,fr,te,.int .i64 ((q:Int)+(es.length:Int)),.int .i64 0,(),.int .i64 0,true],true]) (by simp [results,Tryz.results163,go_sem,r0,r1,r2,r3,r4,r5,r6,r7,r8,s0,s1,s2,s3,s4,s5,s6,s7,s8]) rfl ⟨⟨_,rfl,O4,hfr⟩,hB4⟩
   ·obtain rfl:cc=co:=by have hq:=HCC.out;omega
    clear HCC;obtain⟨xl,x0,x1,x2,x3,x4,x5,x6,x7,x8⟩:=X.e9;obtain⟨ml,m0,m1,m2,m3,m4,m5,m6,m7,m8⟩:=M.e9;obtain⟨ttl,tt0,tt1,tt2,tt3,tt4,tt5,tt6,tt7,tt8⟩:=T.e9;obtain⟨e0,e1,e2,e3,e4,e5,e6,e7,e8⟩:=X.f9
    go_upto_region 25 with fail
    obtain⟨WQ,hWQ⟩:∃W,W=W7:=⟨_,rfl⟩;rw [←hWQ] at X M Y Z T OL hB ⊢;clear hWQ;clear xl x0 x1 x2 x3 x4 x5 x6 x7 x8 ml m0 m1 m2 m3 m4 m5 m6 m7 m8;clear ttl tt0 tt1 tt2 tt3 tt4 tt5 tt6 tt7 tt8;clear e0 e1 e2 e3 e4 e5 e6 e7 e8;have hzs:=hB.size;obtain⟨W9,hW9,hC3,Y3⟩:=zk_ WQ Y nk p te vo (.slice ua lg.length uc) cc (0:Int) () ();have hy9:=Y.1;have hz9:=Z.1;have Z3:=hC3.box Z (by omega);have T3:=hC3.box T (by omega);have O3:=hC3.owns OL (fun b hb hh=>by have h8:=apb b hb;have hh:b=w.heap.size+1+1:=hh;omega);have hB3:=hB.trans (hC3.b1 hB.size (by omega));obtain⟨WZ,hWZ,hC4,Z4⟩:=zk_ W9 Z3 (.int .i64 4) nk fr te (.int .i64 ((q:Int)+(es.length:Int))) (0:Int) () (0:Int) true;have Y4:=hC4.box Y3 (by omega);have O4:=hC4.owns O3 (fun b hb hh=>by have h8:=apb b hb;have hh:b=w.heap.size+1+1+1:=hh;omega);have hB4:=hB3.trans (hC4.b1 hB3.size (by omega));unfold put9 at hW9 hWZ;have HW9:Hid _:=hW9;have HWZ:Hid _:=hWZ;clear hW9 hWZ hC3 hC4;obtain⟨xl,x0,x1,x2,x3,x4,x5,x6,x7,x8⟩:=X.e9;obtain⟨ttl,tt0,tt1,tt2,tt3,tt4,tt5,tt6,tt7,tt8⟩:=T.e9;obtain⟨yl,y0,y1,y2,y3,y4,y5,y6,y7,y8⟩:=Y.e9;obtain⟨f0,f1,f2,f3,f4,f5,f6,f7,f8⟩:=Y.f9;obtain⟨zl,z0,z1,z2,z3,z4,z5,z6,z7,z8⟩:=Z.e9;obtain⟨g0,g1,g2,g3,g4,g5,g6,g7,g8⟩:=Z.f9;clear X T Y Z Y3 Z3 T3 O3 hB hB3 OL M
    go_region
    rw [←HW9.out,←HWZ.out];clear HW9 HWZ;replace Y4:=zr_ Y4;replace Z4:=zr_ Z4;replace O4:=O4.drew;replace hB4:=hB4.drew;generalize WZ.drew=WE at*;obtain⟨rl,r0,r1,r2,r3,r4,r5,r6,r7,r8⟩:=Y4.e9;obtain⟨sl,s0,s1,s2,s3,s4,s5,s6,s7,s8⟩:=Z4.e9;clear Y4 Z4;go_wp2;exact bodyPost_ret (v:= .tuple #[.agg #[nk,p,te,vo,.slice ua lg.length uc,cc,.int .i64 0,(),()],.agg #[.int .i64 4,nk,fr,te,.int .i64 ((q:Int)+(es.length:Int)),.int .i64 0,(),.int .i64 0,true],true]) (by simp [results,Tryz.results163,go_sem,r0,r1,r2,r3,r4,r5,r6,r7,r8,s0,s1,s2,s3,s4,s5,s6,s7,s8]) rfl ⟨⟨_,rfl,O4,hfr⟩,hB4⟩
  ·by_cases hb:co<mco
   ·obtain rfl:cc=mco:=by have hq:=HCC.out;omega
    clear HCC;obtain⟨xl,x0,x1,x2,x3,x4,x5,x6,x7,x8⟩:=X.e9;obtain⟨ml,m0,m1,m2,m3,m4,m5,m6,m7,m8⟩:=M.e9;obtain⟨ttl,tt0,tt1,tt2,tt3,tt4,tt5,tt6,tt7,tt8⟩:=T.e9;obtain⟨e0,e1,e2,e3,e4,e5,e6,e7,e8⟩:=X.f9
    go_upto_region 25 with fail
    obtain⟨WQ,hWQ⟩:∃W,W=W7.setCell ⟨w.heap.size,5,none⟩ (.int .i64 cc):=⟨_,rfl⟩;have hC:Chg (fun b=>b=w.heap.size) W7 WQ:=by rw [hWQ];exact Chg.setCell (S:=fun b=>b=w.heap.size) (Chg.refl _ _) rfl _
    have hx8:=X.1;replace X:Box WQ w.heap.size [nk,p,te,vo,.slice ua lg.length uc,cc,.int .i64 0,(),()]:=by rw [hWQ];exact X.set 5 _ (by simp)
    replace M:=hC.box M (by omega);replace Y:=hC.box Y (by omega);replace Z:=hC.box Z (by omega);replace T:=hC.box T (by omega);replace OL:=hC.owns OL (fun b hb hh=>by have:=apb b hb;have hh:b=w.heap.size:=hh;omega);replace hB:=hB.trans (hC.b1 hB.size (by omega));rw [←hWQ];clear hWQ hC;clear xl x0 x1 x2 x3 x4 x5 x6 x7 x8 ml m0 m1 m2 m3 m4 m5 m6 m7 m8;clear ttl tt0 tt1 tt2 tt3 tt4 tt5 tt6 tt7 tt8;clear e0 e1 e2 e3 e4 e5 e6 e7 e8;have hzs:=hB.size;obtain⟨W9,hW9,hC3,Y3⟩:=zk_ WQ Y nk p te vo (.slice ua lg.length uc) cc (0:Int) () ();have hy9:=Y.1;have hz9:=Z.1;have Z3:=hC3.box Z (by omega);have T3:=hC3.box T (by omega);have O3:=hC3.owns OL (fun b hb hh=>by have h8:=apb b hb;have hh:b=w.heap.size+1+1:=hh;omega);have hB3:=hB.trans (hC3.b1 hB.size (by omega));obtain⟨WZ,hWZ,hC4,Z4⟩:=zk_ W9 Z3 (.int .i64 4) nk fr te (.int .i64 ((q:Int)+(es.length:Int))) (0:Int) () (0:Int) true;have Y4:=hC4.box Y3 (by omega);have O4:=hC4.owns O3 (fun b hb hh=>by have h8:=apb b hb;have hh:b=w.heap.size+1+1+1:=hh;omega);have hB4:=hB3.trans (hC4.b1 hB3.size (by omega));unfold put9 at hW9 hWZ;have HW9:Hid _:=hW9;have HWZ:Hid _:=hWZ;clear hW9 hWZ hC3 hC4;obtain⟨xl,x0,x1,x2,x3,x4,x5,x6,x7,x8⟩:=X.e9;obtain⟨ttl,tt0,tt1,tt2,tt3,tt4,tt5,tt6,tt7,tt8⟩:=T.e9;obtain⟨yl,y0,y1,y2,y3,y4,y5,y6,y7,y8⟩:=Y.e9;obtain⟨f0,f1,f2,f3,f4,f5,f6,f7,f8⟩:=Y.f9;obtain⟨zl,z0,z1,z2,z3,z4,z5,z6,z7,z8⟩:=Z.e9;obtain⟨g0,g1,g2,g3,g4,g5,g6,g7,g8⟩:=Z.f9;clear X T Y Z Y3 Z3 T3 O3 hB hB3 OL M
    go_region
    rw [←HW9.out,←HWZ.out];clear HW9 HWZ;replace Y4:=zr_ Y4;replace Z4:=zr_ Z4;replace O4:=O4.drew;replace hB4:=hB4.drew;generalize WZ.drew=WE at*;obtain⟨rl,r0,r1,r2,r3,r4,r5,r6,r7,r8⟩:=Y4.e9;obtain⟨sl,s0,s1,s2,s3,s4,s5,s6,s7,s8⟩:=Z4.e9;clear Y4 Z4;go_wp2;exact bodyPost_ret (v:= .tuple #[.agg #[nk,p,te,vo,.slice ua lg.length uc,cc,.int .i64 0,(),()],.agg #[.int .i64 4,nk,fr,te,.int .i64 ((q:Int)+(es.length:Int)),.int .i64 0,(),.int .i64 0,true],true]) (by simp [results,Tryz.results163,go_sem,r0,r1,r2,r3,r4,r5,r6,r7,r8,s0,s1,s2,s3,s4,s5,s6,s7,s8]) rfl ⟨⟨_,rfl,O4,hfr⟩,hB4⟩
   ·obtain rfl:cc=co:=by have hq:=HCC.out;omega
    clear HCC;obtain⟨xl,x0,x1,x2,x3,x4,x5,x6,x7,x8⟩:=X.e9;obtain⟨ml,m0,m1,m2,m3,m4,m5,m6,m7,m8⟩:=M.e9;obtain⟨ttl,tt0,tt1,tt2,tt3,tt4,tt5,tt6,tt7,tt8⟩:=T.e9;obtain⟨e0,e1,e2,e3,e4,e5,e6,e7,e8⟩:=X.f9
    go_upto_region 25 with fail
    obtain⟨WQ,hWQ⟩:∃W,W=W7:=⟨_,rfl⟩;rw [←hWQ] at X M Y Z T OL hB ⊢;clear hWQ;clear xl x0 x1 x2 x3 x4 x5 x6 x7 x8 ml m0 m1 m2 m3 m4 m5 m6 m7 m8;clear ttl tt0 tt1 tt2 tt3 tt4 tt5 tt6 tt7 tt8;clear e0 e1 e2 e3 e4 e5 e6 e7 e8;have hzs:=hB.size;obtain⟨W9,hW9,hC3,Y3⟩:=zk_ WQ Y nk p te vo (.slice ua lg.length uc) cc (0:Int) () ();have hy9:=Y.1;have hz9:=Z.1;have Z3:=hC3.box Z (by omega);have T3:=hC3.box T (by omega);have O3:=hC3.owns OL (fun b hb hh=>by have h8:=apb b hb;have hh:b=w.heap.size+1+1:=hh;omega);have hB3:=hB.trans (hC3.b1 hB.size (by omega));obtain⟨WZ,hWZ,hC4,Z4⟩:=zk_ W9 Z3 (.int .i64 4) nk fr te (.int .i64 ((q:Int)+(es.length:Int))) (0:Int) () (0:Int) true;have Y4:=hC4.box Y3 (by omega);have O4:=hC4.owns O3 (fun b hb hh=>by have h8:=apb b hb;have hh:b=w.heap.size+1+1+1:=hh;omega);have hB4:=hB3.trans (hC4.b1 hB3.size (by omega));unfold put9 at hW9 hWZ;have HW9:Hid _:=hW9;have HWZ:Hid _:=hWZ;clear hW9 hWZ hC3 hC4;obtain⟨xl,x0,x1,x2,x3,x4,x5,x6,x7,x8⟩:=X.e9;obtain⟨ttl,tt0,tt1,tt2,tt3,tt4,tt5,tt6,tt7,tt8⟩:=T.e9;obtain⟨yl,y0,y1,y2,y3,y4,y5,y6,y7,y8⟩:=Y.e9;obtain⟨f0,f1,f2,f3,f4,f5,f6,f7,f8⟩:=Y.f9;obtain⟨zl,z0,z1,z2,z3,z4,z5,z6,z7,z8⟩:=Z.e9;obtain⟨g0,g1,g2,g3,g4,g5,g6,g7,g8⟩:=Z.f9;clear X T Y Z Y3 Z3 T3 O3 hB hB3 OL M
    go_region
    rw [←HW9.out,←HWZ.out];clear HW9 HWZ;replace Y4:=zr_ Y4;replace Z4:=zr_ Z4;replace O4:=O4.drew;replace hB4:=hB4.drew;generalize WZ.drew=WE at*;obtain⟨rl,r0,r1,r2,r3,r4,r5,r6,r7,r8⟩:=Y4.e9;obtain⟨sl,s0,s1,s2,s3,s4,s5,s6,s7,s8⟩:=Z4.e9;clear Y4 Z4;go_wp2;exact bodyPost_ret (v:= .tuple #[.agg #[nk,p,te,vo,.slice ua lg.length uc,cc,.int .i64 0,(),()],.agg #[.int .i64 4,nk,fr,te,.int .i64 ((q:Int)+(es.length:Int)),.int .i64 0,(),.int .i64 0,true],true]) (by simp [results,Tryz.results163,go_sem,r0,r1,r2,r3,r4,r5,r6,r7,r8,s0,s1,s2,s3,s4,s5,s6,s7,s8]) rfl ⟨⟨_,rfl,O4,hfr⟩,hB4⟩
end Go.Proofs.YtapfhhmimkkhnaaGreat
