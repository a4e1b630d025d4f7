/-
  A node asked for its vote: onAsk.
  A vote counted: votedBy, onVote.
  The specification's l11Told; what l11Put leans on: where a number stands in a rising list, slices of numbers.
-/
import Derived.Test.YtapfhhmimkkhnaaGreatRS1ToLE
namespace Go.Proofs.YtapfhhmimkkhnaaGreat
open Go.RowKit Go.Maps
set_option linter.unusedVariables false
set_option maxRecDepth 100000
set_option maxHeartbeats 16000000
theorem zq_ {w:World} {b:Nat} {l:List Value} (h:Box w b l):Box w.drew b l:=h
theorem zS_ (w:World) (ki fr dst te ix be co:Int) (ye:Bool):(w.alloc (.cells #[ki,fr,dst,te,ix,be,(),co,ye] 80)).ownsRow w.heap.size 80 9 (.slice (some ⟨w.heap.size,0,none⟩) 1 1) 1 (zW_ [⟨ki,fr,dst,te,ix,be,co,ye⟩]):=
 World.ownsRow_lit w #[ki,fr,dst,te,ix,be,(),co,ye] 1 (Nat.le_refl _) (by simp [maxLen]) (by simp)
theorem qM_ (id pe te vo co ro:Int) (la:Option Addr) (lc:Nat) (va:Option Addr) (vc:Nat) (ma:Option Addr) (mc:Nat) (log:List En) (vs mt:List Int) (ki fr dst mte ix be mco:Int) (ye:Bool) (ea:Option Addr) (ec:Nat) (es:List En) (w:World) (hl:ER w (.slice la log.length lc) log) (hv:IL w (.slice va vs.length vc) vs) (hm:IL w (.slice ma mt.length mc) mt) (nl:log.length≤1048576) (y:Bool) (hy:(decide (mte=te)&&((decide (vo= -1) || decide (vo=fr))&&zO_ log ix be))=y):
  Calls Tryz.prog 171 #[.agg #[id,pe,te,vo,.slice la log.length lc,co,ro,.slice va vs.length vc,.slice ma mt.length mc],.agg #[ki,fr,dst,mte,ix,be,.slice ea es.length ec,mco,ye]] w fun e w'=>∃u,e= .returned (.tuple #[.agg #[id,pe,te,.int .i64 (if y then fr else vo),.slice la log.length lc,co,ro,.slice va vs.length vc,.slice ma mt.length mc],u,true])∧w'.ownsRow w.heap.size 80 9 u 1 (zW_ [⟨2,id,fr,te,0,0,0,y⟩])∧Below w.heap.size w w':=by
 obtain⟨W0,hW0,hB,X,M,Y,hz0⟩:=al3 w [id,pe,te,vo,.slice la log.length lc,co,ro,.slice va vs.length vc,.slice ma mt.length mc] 42 [ki,fr,dst,mte,ix,be,.slice ea es.length ec,mco,ye] 80 zN 42;have K1:=fun W=>yR_ id pe te vo co ro fr 2 (.slice la log.length lc) (.slice va vs.length vc) (.slice ma mt.length mc) W;have K2:=fun W (h:Below w.heap.size w W)=>tE_ id pe te vo co ro (.slice la log.length lc) (.slice va vs.length vc) (.slice ma mt.length mc) log vs mt ix be W (hl.below h) (hv.below h) (hm.below h) nl;clear hl hv hm;go_enter Tryz.func171,Tryz.ntmps171;go_wp2_with fail;rw [←hW0];clear hW0;refine (K1 _).mono ?_;rintro e w1 ⟨rfl,hb⟩;clear K1;have hz1:=hb.size;replace hB:=za_ hB hb;replace X:=X.below hb;replace M:=M.below hb;replace Y:=Y.below hb;clear hb;have hBa:=zb_ w1 (.cells #[(2:Int),id,fr,te,(0:Int),(0:Int),(),(0:Int),false] 80);have Q:=Box.new w1 #[(2:Int),id,fr,te,(0:Int),(0:Int),(),(0:Int),false] 80;replace hB:=za_ hB hBa;replace X:=X.below hBa;replace M:=M.below hBa;replace Y:=Y.below hBa;obtain⟨wq,hwq⟩:∃W,W=w1.alloc (.cells #[(2:Int),id,fr,te,(0:Int),(0:Int),(),(0:Int),false] 80):=⟨_,rfl⟩;obtain⟨g,hg⟩:∃g,g=w1.heap.size:=⟨_,rfl⟩;have hg1:w.heap.size+1+1+1≤g:=by omega
 rw [←hwq] at hB X M Y Q;rw [←hg] at Q;go_upto_region 2 with fail;rw [←hwq,←hg];clear hwq hg hBa hz1;obtain⟨xl,x0,x1,x2,x3,x4,x5,x6,x7,x8⟩:=X.e9;obtain⟨ml,m0,m1,m2,m3,m4,m5,m6,m7,m8⟩:=M.e9;obtain⟨ql,q0,q1,q2,q3,q4,q5,q6,q7,q8⟩:=Q.e9;obtain⟨f0,f1,f2,f3,f4,f5,f6,f7,f8⟩:=X.f9;obtain⟨h0,h1,h2,h3,h4,h5,h6,h7,h8⟩:=Q.f9;by_cases c2:vo= -1
 ·subst c2;by_cases c1:te=mte
  ·subst c1;obtain⟨nb,hnb⟩:∃nb,zO_ log ix be=nb:=⟨_,rfl⟩;rw [hnb] at K2;go_wp2_with fail;refine (K2 _ hB).mono ?_;rintro e w2 ⟨rfl,hb⟩;clear K2;replace hB:=za_ hB hb;replace X:=X.below hb;replace Y:=Y.below hb;replace Q:=Q.below hb;replace M:=M.below hb;have hzc:=hb.size;clear hb xl x0 x1 x2 x3 x4 x5 x6 x7 x8 ml m0 m1 m2 m3 m4 m5 m6 m7 m8 ql q0 q1 q2 q3 q4 q5 q6 q7 q8 f0 f1 f2 f3 f4 f5 f6 f7 f8 h0 h1 h2 h3 h4 h5 h6 h7 h8;obtain⟨xl,x0,x1,x2,x3,x4,x5,x6,x7,x8⟩:=X.e9;obtain⟨ml,m0,m1,m2,m3,m4,m5,m6,m7,m8⟩:=M.e9;obtain⟨ql,q0,q1,q2,q3,q4,q5,q6,q7,q8⟩:=Q.e9;obtain⟨f0,f1,f2,f3,f4,f5,f6,f7,f8⟩:=X.f9;obtain⟨h0,h1,h2,h3,h4,h5,h6,h7,h8⟩:=Q.f9
   cases nb with
   | true=>
    obtain rfl:y=true:=by rw [←hy];simp [hnb]
    clear hy;clear hnb;have hC1:Chg (fun k=>k=w.heap.size∨k=g) w2 ((w2.setCell ⟨w.heap.size,3,none⟩ (.int .i64 fr)).setCell ⟨g,8,none⟩ (.bool true)):=Chg.setCell (S:=fun k=>k=w.heap.size∨k=g) (Chg.setCell (S:=fun k=>k=w.heap.size∨k=g) (Chg.refl _ _) (.inl rfl) _) (.inr rfl) _;obtain⟨W2,hW2⟩:∃W,W=(w2.setCell ⟨w.heap.size,3,none⟩ (.int .i64 fr)).setCell ⟨g,8,none⟩ (.bool true):=⟨_,rfl⟩;rw [←hW2] at hC1;have X2:Box W2 w.heap.size [id,pe,te,fr,.slice la log.length lc,co,ro,.slice va vs.length vc,.slice ma mt.length mc]:=by
     rw [hW2];have q:=(Chg.setCell (S:=fun k=>k=g) (Chg.refl _ (w2.setCell ⟨w.heap.size,3,none⟩ (.int .i64 fr))) (p:=⟨g,8,none⟩) rfl (.bool true)).box (X.set 3 (.int .i64 fr) (by simp)) (by omega);exact q
    have Q2:Box W2 g [(2:Int),id,fr,te,(0:Int),(0:Int),(),(0:Int),true]:=by
     rw [hW2];have q:=(Chg.setCell (S:=fun k=>k=w.heap.size) (Chg.refl _ w2) (p:=⟨w.heap.size,3,none⟩) rfl (.int .i64 fr)).box Q (by omega);exact q.set 8 (.bool true) (by simp)
    have Y2:=hC1.box Y (by omega);have hB2:=hB.trans (hC1.below (B:=w.heap.size) hB.size (fun k hk=>by omega));have hz9:=hC1.size;clear hC1;go_upto_region 6 with fail;rw [←hW2];clear hW2 X Y Q M hB xl x0 x1 x2 x3 x4 x5 x6 x7 x8 ml m0 m1 m2 m3 m4 m5 m6 m7 m8 ql q0 q1 q2 q3 q4 q5 q6 q7 q8 f0 f1 f2 f3 f4 f5 f6 f7 f8 h0 h1 h2 h3 h4 h5 h6 h7 h8;have hzs:=hB2.size;have hy9:=Y2.1;obtain⟨WZ,hWZ,hC3,Z3⟩:=zj_ W2 Y2 id pe te fr (.slice la log.length lc) co ro (.slice va vs.length vc) (.slice ma mt.length mc);have hze:WZ.heap.size=W2.heap.size:=by rw [hWZ];simp [put9]
    have hBa:=zb_ WZ (.cells #[(2:Int),id,fr,te,(0:Int),(0:Int),(),(0:Int),true] 80);have R:=zS_ WZ 2 id fr te 0 0 0 true;rw [hze] at R;have R3:=(zf_ R hzs).drew;have hB3:=(za_ (hB2.trans (hC3.below (B:=w.heap.size) hB2.size (fun k hk=>by omega))) hBa).drew;replace Z3:=zq_ (Z3.below hBa);clear hC3 hze;unfold put9 at hWZ;have HWZ:Hid _:=hWZ;clear hWZ;obtain⟨xl,x0,x1,x2,x3,x4,x5,x6,x7,x8⟩:=X2.e9;obtain⟨yl,y0,y1,y2,y3,y4,y5,y6,y7,y8⟩:=Y2.e9;obtain⟨ql,q0,q1,q2,q3,q4,q5,q6,q7,q8⟩:=Q2.e9;obtain⟨f0,f1,f2,f3,f4,f5,f6,f7,f8⟩:=Y2.f9;clear X2 Y2 Q2 R hBa
    go_region
    rw [←HWZ.out];clear HWZ xl x0 x1 x2 x3 x4 x5 x6 x7 x8 yl y0 y1 y2 y3 y4 y5 y6 y7 y8 ql q0 q1 q2 q3 q4 q5 q6 q7 q8 f0 f1 f2 f3 f4 f5 f6 f7 f8;generalize (WZ.alloc (.cells #[(2:Int),id,fr,te,(0:Int),(0:Int),(),(0:Int),true] 80)).drew=WE at*;obtain⟨tl,t0,t1,t2,t3,t4,t5,t6,t7,t8⟩:=Z3.e9;clear Z3;go_wp2;exact bodyPost_ret (v:= .tuple #[.agg #[id,pe,te,fr,.slice la log.length lc,co,ro,.slice va vs.length vc,.slice ma mt.length mc],.slice (some ⟨W2.heap.size,0,none⟩) 1 1,true]) (by simp [results,Tryz.results171,go_sem,t0,t1,t2,t3,t4,t5,t6,t7,t8]) rfl ⟨_,rfl,R3,hB3⟩
   | false=>
    obtain rfl:y=false:=by rw [←hy];simp [hnb]
    clear hy;clear hnb;go_upto_region 6 with fail;obtain⟨W2,hW2⟩:∃W,W=w2:=⟨_,rfl⟩;rw [←hW2] at X Y Q hB ⊢;have X2:=X;have Y2:=Y;have Q2:=Q;have hB2:=hB;have hz9:w2.heap.size≤W2.heap.size:=by rw [hW2];exact Nat.le_refl _
    clear hW2 X Y Q M hB xl x0 x1 x2 x3 x4 x5 x6 x7 x8 ml m0 m1 m2 m3 m4 m5 m6 m7 m8 ql q0 q1 q2 q3 q4 q5 q6 q7 q8 f0 f1 f2 f3 f4 f5 f6 f7 f8 h0 h1 h2 h3 h4 h5 h6 h7 h8;have hzs:=hB2.size;have hy9:=Y2.1;obtain⟨WZ,hWZ,hC3,Z3⟩:=zj_ W2 Y2 id pe te (.int .i64 (-1)) (.slice la log.length lc) co ro (.slice va vs.length vc) (.slice ma mt.length mc);have hze:WZ.heap.size=W2.heap.size:=by rw [hWZ];simp [put9]
    have hBa:=zb_ WZ (.cells #[(2:Int),id,fr,te,(0:Int),(0:Int),(),(0:Int),false] 80);have R:=zS_ WZ 2 id fr te 0 0 0 false;rw [hze] at R;have R3:=(zf_ R hzs).drew;have hB3:=(za_ (hB2.trans (hC3.below (B:=w.heap.size) hB2.size (fun k hk=>by omega))) hBa).drew;replace Z3:=zq_ (Z3.below hBa);clear hC3 hze;unfold put9 at hWZ;have HWZ:Hid _:=hWZ;clear hWZ;obtain⟨xl,x0,x1,x2,x3,x4,x5,x6,x7,x8⟩:=X2.e9;obtain⟨yl,y0,y1,y2,y3,y4,y5,y6,y7,y8⟩:=Y2.e9;obtain⟨ql,q0,q1,q2,q3,q4,q5,q6,q7,q8⟩:=Q2.e9;obtain⟨f0,f1,f2,f3,f4,f5,f6,f7,f8⟩:=Y2.f9;clear X2 Y2 Q2 R hBa
    go_region
    rw [←HWZ.out];clear HWZ xl x0 x1 x2 x3 x4 x5 x6 x7 x8 yl y0 y1 y2 y3 y4 y5 y6 y7 y8 ql q0 q1 q2 q3 q4 q5 q6 q7 q8 f0 f1 f2 f3 f4 f5 f6 f7 f8;generalize (WZ.alloc (.cells #[(2:Int),id,fr,te,(0:Int),(0:Int),(),(0:Int),false] 80)).drew=WE at*;obtain⟨tl,t0,t1,t2,t3,t4,t5,t6,t7,t8⟩:=Z3.e9;clear Z3;go_wp2;exact bodyPost_ret (v:= .tuple #[.agg #[id,pe,te,(-1:Int),.slice la log.length lc,co,ro,.slice va vs.length vc,.slice ma mt.length mc],.slice (some ⟨W2.heap.size,0,none⟩) 1 1,true]) (by simp [results,Tryz.results171,go_sem,t0,t1,t2,t3,t4,t5,t6,t7,t8]) rfl ⟨_,rfl,R3,hB3⟩
  ·have c1b:¬mte=te:=fun e=>c1 e.symm;clear c1;clear K2;obtain rfl:y=false:=by rw [←hy];simp [c1b]
   clear hy;go_upto_region 6 with fail;obtain⟨W2,hW2⟩:∃W,W=wq:=⟨_,rfl⟩;rw [←hW2] at X Y Q hB ⊢;have X2:=X;have Y2:=Y;have Q2:=Q;have hB2:=hB;have hz9:wq.heap.size≤W2.heap.size:=by rw [hW2];exact Nat.le_refl _
   clear hW2 X Y Q M hB xl x0 x1 x2 x3 x4 x5 x6 x7 x8 ml m0 m1 m2 m3 m4 m5 m6 m7 m8 ql q0 q1 q2 q3 q4 q5 q6 q7 q8 f0 f1 f2 f3 f4 f5 f6 f7 f8 h0 h1 h2 h3 h4 h5 h6 h7 h8;have hzs:=hB2.size;have hy9:=Y2.1;obtain⟨WZ,hWZ,hC3,Z3⟩:=zj_ W2 Y2 id pe te (.int .i64 (-1)) (.slice la log.length lc) co ro (.slice va vs.length vc) (.slice ma mt.length mc);have hze:WZ.heap.size=W2.heap.size:=by rw [hWZ];simp [put9]
   have hBa:=zb_ WZ (.cells #[(2:Int),id,fr,te,(0:Int),(0:Int),(),(0:Int),false] 80);have R:=zS_ WZ 2 id fr te 0 0 0 false;rw [hze] at R;have R3:=(zf_ R hzs).drew;have hB3:=(za_ (hB2.trans (hC3.below (B:=w.heap.size) hB2.size (fun k hk=>by omega))) hBa).drew;replace Z3:=zq_ (Z3.below hBa);clear hC3 hze;unfold put9 at hWZ;have HWZ:Hid _:=hWZ;clear hWZ;obtain⟨xl,x0,x1,x2,x3,x4,x5,x6,x7,x8⟩:=X2.e9;obtain⟨yl,y0,y1,y2,y3,y4,y5,y6,y7,y8⟩:=Y2.e9;obtain⟨ql,q0,q1,q2,q3,q4,q5,q6,q7,q8⟩:=Q2.e9;obtain⟨f0,f1,f2,f3,f4,f5,f6,f7,f8⟩:=Y2.f9;clear X2 Y2 Q2 R hBa
   go_region
   rw [←HWZ.out];clear HWZ xl x0 x1 x2 x3 x4 x5 x6 x7 x8 yl y0 y1 y2 y3 y4 y5 y6 y7 y8 ql q0 q1 q2 q3 q4 q5 q6 q7 q8 f0 f1 f2 f3 f4 f5 f6 f7 f8;generalize (WZ.alloc (.cells #[(2:Int),id,fr,te,(0:Int),(0:Int),(),(0:Int),false] 80)).drew=WE at*;obtain⟨tl,t0,t1,t2,t3,t4,t5,t6,t7,t8⟩:=Z3.e9;clear Z3;go_wp2;exact bodyPost_ret (v:= .tuple #[.agg #[id,pe,te,(-1:Int),.slice la log.length lc,co,ro,.slice va vs.length vc,.slice ma mt.length mc],.slice (some ⟨W2.heap.size,0,none⟩) 1 1,true]) (by simp [results,Tryz.results171,go_sem,t0,t1,t2,t3,t4,t5,t6,t7,t8]) rfl ⟨_,rfl,R3,hB3⟩
 ·by_cases c3:fr=vo
  ·subst c3;by_cases c1:te=mte
   ·subst c1;obtain⟨nb,hnb⟩:∃nb,zO_ log ix be=nb:=⟨_,rfl⟩;rw [hnb] at K2;go_wp2_with fail;refine (K2 _ hB).mono ?_;rintro e w2 ⟨rfl,hb⟩;clear K2;replace hB:=za_ hB hb;replace X:=X.below hb;replace Y:=Y.below hb;replace Q:=Q.below hb;replace M:=M.below hb;have hzc:=hb.size;clear hb xl x0 x1 x2 x3 x4 x5 x6 x7 x8 ml m0 m1 m2 m3 m4 m5 m6 m7 m8 ql q0 q1 q2 q3 q4 q5 q6 q7 q8 f0 f1 f2 f3 f4 f5 f6 f7 f8 h0 h1 h2 h3 h4 h5 h6 h7 h8;obtain⟨xl,x0,x1,x2,x3,x4,x5,x6,x7,x8⟩:=X.e9;obtain⟨ml,m0,m1,m2,m3,m4,m5,m6,m7,m8⟩:=M.e9;obtain⟨ql,q0,q1,q2,q3,q4,q5,q6,q7,q8⟩:=Q.e9;obtain⟨f0,f1,f2,f3,f4,f5,f6,f7,f8⟩:=X.f9;obtain⟨h0,h1,h2,h3,h4,h5,h6,h7,h8⟩:=Q.f9
    cases nb with
    | true=>
     obtain rfl:y=true:=by rw [←hy];simp [c2,hnb]
     clear hy;clear hnb;have hC1:Chg (fun k=>k=w.heap.size∨k=g) w2 ((w2.setCell ⟨w.heap.size,3,none⟩ (.int .i64 fr)).setCell ⟨g,8,none⟩ (.bool true)):=Chg.setCell (S:=fun k=>k=w.heap.size∨k=g) (Chg.setCell (S:=fun k=>k=w.heap.size∨k=g) (Chg.refl _ _) (.inl rfl) _) (.inr rfl) _;obtain⟨W2,hW2⟩:∃W,W=(w2.setCell ⟨w.heap.size,3,none⟩ (.int .i64 fr)).setCell ⟨g,8,none⟩ (.bool true):=⟨_,rfl⟩;rw [←hW2] at hC1;have X2:Box W2 w.heap.size [id,pe,te,fr,.slice la log.length lc,co,ro,.slice va vs.length vc,.slice ma mt.length mc]:=by
      rw [hW2];have q:=(Chg.setCell (S:=fun k=>k=g) (Chg.refl _ (w2.setCell ⟨w.heap.size,3,none⟩ (.int .i64 fr))) (p:=⟨g,8,none⟩) rfl (.bool true)).box (X.set 3 (.int .i64 fr) (by simp)) (by omega);exact q
     have Q2:Box W2 g [(2:Int),id,fr,te,(0:Int),(0:Int),(),(0:Int),true]:=by
      rw [hW2];have q:=(Chg.setCell (S:=fun k=>k=w.heap.size) (Chg.refl _ w2) (p:=⟨w.heap.size,3,none⟩) rfl (.int .i64 fr)).box Q (by omega);exact q.set 8 (.bool true) (by simp)
     have Y2:=hC1.box Y (by omega);have hB2:=hB.trans (hC1.below (B:=w.heap.size) hB.size (fun k hk=>by omega));have hz9:=hC1.size;clear hC1;go_upto_region 6 with fail;rw [←hW2];clear hW2 X Y Q M hB xl x0 x1 x2 x3 x4 x5 x6 x7 x8 ml m0 m1 m2 m3 m4 m5 m6 m7 m8 ql q0 q1 q2 q3 q4 q5 q6 q7 q8 f0 f1 f2 f3 f4 f5 f6 f7 f8 h0 h1 h2 h3 h4 h5 h6 h7 h8;have hzs:=hB2.size;have hy9:=Y2.1;obtain⟨WZ,hWZ,hC3,Z3⟩:=zj_ W2 Y2 id pe te fr (.slice la log.length lc) co ro (.slice va vs.length vc) (.slice ma mt.length mc);have hze:WZ.heap.size=W2.heap.size:=by rw [hWZ];simp [put9]
     have hBa:=zb_ WZ (.cells #[(2:Int),id,fr,te,(0:Int),(0:Int),(),(0:Int),true] 80);have R:=zS_ WZ 2 id fr te 0 0 0 true;rw [hze] at R;have R3:=(zf_ R hzs).drew;have hB3:=(za_ (hB2.trans (hC3.below (B:=w.heap.size) hB2.size (fun k hk=>by omega))) hBa).drew;replace Z3:=zq_ (Z3.below hBa);clear hC3 hze;unfold put9 at hWZ;have HWZ:Hid _:=hWZ;clear hWZ;obtain⟨xl,x0,x1,x2,x3,x4,x5,x6,x7,x8⟩:=X2.e9;obtain⟨yl,y0,y1,y2,y3,y4,y5,y6,y7,y8⟩:=Y2.e9;obtain⟨ql,q0,q1,q2,q3,q4,q5,q6,q7,q8⟩:=Q2.e9;obtain⟨f0,f1,f2,f3,f4,f5,f6,f7,f8⟩:=Y2.f9;clear X2 Y2 Q2 R hBa
     go_region
     rw [←HWZ.out];clear HWZ xl x0 x1 x2 x3 x4 x5 x6 x7 x8 yl y0 y1 y2 y3 y4 y5 y6 y7 y8 ql q0 q1 q2 q3 q4 q5 q6 q7 q8 f0 f1 f2 f3 f4 f5 f6 f7 f8;generalize (WZ.alloc (.cells #[(2:Int),id,fr,te,(0:Int),(0:Int),(),(0:Int),true] 80)).drew=WE at*;obtain⟨tl,t0,t1,t2,t3,t4,t5,t6,t7,t8⟩:=Z3.e9;clear Z3;go_wp2;exact bodyPost_ret (v:= .tuple #[.agg #[id,pe,te,fr,.slice la log.length lc,co,ro,.slice va vs.length vc,.slice ma mt.length mc],.slice (some ⟨W2.heap.size,0,none⟩) 1 1,true]) (by simp [results,Tryz.results171,go_sem,t0,t1,t2,t3,t4,t5,t6,t7,t8]) rfl ⟨_,rfl,R3,hB3⟩
    | false=>
     obtain rfl:y=false:=by rw [←hy];simp [c2,hnb]
     clear hy;clear hnb;go_upto_region 6 with fail;obtain⟨W2,hW2⟩:∃W,W=w2:=⟨_,rfl⟩;rw [←hW2] at X Y Q hB ⊢;have X2:=X;have Y2:=Y;have Q2:=Q;have hB2:=hB;have hz9:w2.heap.size≤W2.heap.size:=by rw [hW2];exact Nat.le_refl _
     clear hW2 X Y Q M hB xl x0 x1 x2 x3 x4 x5 x6 x7 x8 ml m0 m1 m2 m3 m4 m5 m6 m7 m8 ql q0 q1 q2 q3 q4 q5 q6 q7 q8 f0 f1 f2 f3 f4 f5 f6 f7 f8 h0 h1 h2 h3 h4 h5 h6 h7 h8;have hzs:=hB2.size;have hy9:=Y2.1;obtain⟨WZ,hWZ,hC3,Z3⟩:=zj_ W2 Y2 id pe te fr (.slice la log.length lc) co ro (.slice va vs.length vc) (.slice ma mt.length mc);have hze:WZ.heap.size=W2.heap.size:=by rw [hWZ];simp [put9]
     have hBa:=zb_ WZ (.cells #[(2:Int),id,fr,te,(0:Int),(0:Int),(),(0:Int),false] 80);have R:=zS_ WZ 2 id fr te 0 0 0 false;rw [hze] at R;have R3:=(zf_ R hzs).drew;have hB3:=(za_ (hB2.trans (hC3.below (B:=w.heap.size) hB2.size (fun k hk=>by omega))) hBa).drew;replace Z3:=zq_ (Z3.below hBa);clear hC3 hze;unfold put9 at hWZ;have HWZ:Hid _:=hWZ;clear hWZ;obtain⟨xl,x0,x1,x2,x3,x4,x5,x6,x7,x8⟩:=X2.e9;obtain⟨yl,y0,y1,y2,y3,y4,y5,y6,y7,y8⟩:=Y2.e9;obtain⟨ql,q0,q1,q2,q3,q4,q5,q6,q7,q8⟩:=Q2.e9;obtain⟨f0,f1,f2,f3,f4,f5,f6,f7,f8⟩:=Y2.f9;clear X2 Y2 Q2 R hBa
     go_region
     rw [←HWZ.out];clear HWZ xl x0 x1 x2 x3 x4 x5 x6 x7 x8 yl y0 y1 y2 y3 y4 y5 y6 y7 y8 ql q0 q1 q2 q3 q4 q5 q6 q7 q8 f0 f1 f2 f3 f4 f5 f6 f7 f8;generalize (WZ.alloc (.cells #[(2:Int),id,fr,te,(0:Int),(0:Int),(),(0:Int),false] 80)).drew=WE at*;obtain⟨tl,t0,t1,t2,t3,t4,t5,t6,t7,t8⟩:=Z3.e9;clear Z3;go_wp2;exact bodyPost_ret (v:= .tuple #[.agg #[id,pe,te,fr,.slice la log.length lc,co,ro,.slice va vs.length vc,.slice ma mt.length mc],.slice (some ⟨W2.heap.size,0,none⟩) 1 1,true]) (by simp [results,Tryz.results171,go_sem,t0,t1,t2,t3,t4,t5,t6,t7,t8]) rfl ⟨_,rfl,R3,hB3⟩
   ·have c1b:¬mte=te:=fun e=>c1 e.symm;clear c1;clear K2;obtain rfl:y=false:=by rw [←hy];simp [c2,c1b]
    clear hy;go_upto_region 6 with fail;obtain⟨W2,hW2⟩:∃W,W=wq:=⟨_,rfl⟩;rw [←hW2] at X Y Q hB ⊢;have X2:=X;have Y2:=Y;have Q2:=Q;have hB2:=hB;have hz9:wq.heap.size≤W2.heap.size:=by rw [hW2];exact Nat.le_refl _
    clear hW2 X Y Q M hB xl x0 x1 x2 x3 x4 x5 x6 x7 x8 ml m0 m1 m2 m3 m4 m5 m6 m7 m8 ql q0 q1 q2 q3 q4 q5 q6 q7 q8 f0 f1 f2 f3 f4 f5 f6 f7 f8 h0 h1 h2 h3 h4 h5 h6 h7 h8;have hzs:=hB2.size;have hy9:=Y2.1;obtain⟨WZ,hWZ,hC3,Z3⟩:=zj_ W2 Y2 id pe te fr (.slice la log.length lc) co ro (.slice va vs.length vc) (.slice ma mt.length mc);have hze:WZ.heap.size=W2.heap.size:=by rw [hWZ];simp [put9]
    have hBa:=zb_ WZ (.cells #[(2:Int),id,fr,te,(0:Int),(0:Int),(),(0:Int),false] 80);have R:=zS_ WZ 2 id fr te 0 0 0 false;rw [hze] at R;have R3:=(zf_ R hzs).drew;have hB3:=(za_ (hB2.trans (hC3.below (B:=w.heap.size) hB2.size (fun k hk=>by omega))) hBa).drew;replace Z3:=zq_ (Z3.below hBa);clear hC3 hze;unfold put9 at hWZ;have HWZ:Hid _:=hWZ;clear hWZ;obtain⟨xl,x0,x1,x2,x3,x4,x5,x6,x7,x8⟩:=X2.e9;obtain⟨yl,y0,y1,y2,y3,y4,y5,y6,y7,y8⟩:=Y2.e9;obtain⟨ql,q0,q1,q2,q3,q4,q5,q6,q7,q8⟩:=Q2.e9;obtain⟨f0,f1,f2,f3,f4,f5,f6,f7,f8⟩:=Y2.f9;clear X2 Y2 Q2 R hBa
    go_region
    rw [←HWZ.out];clear HWZ xl x0 x1 x2 x3 x4 x5 x6 x7 x8 yl y0 y1 y2 y3 y4 y5 y6 y7 y8 ql q0 q1 q2 q3 q4 q5 q6 q7 q8 f0 f1 f2 f3 f4 f5 f6 f7 f8;generalize (WZ.alloc (.cells #[(2:Int),id,fr,te,(0:Int),(0:Int),(),(0:Int),false] 80)).drew=WE at*;obtain⟨tl,t0,t1,t2,t3,t4,t5,t6,t7,t8⟩:=Z3.e9;clear Z3;go_wp2;exact bodyPost_ret (v:= .tuple #[.agg #[id,pe,te,fr,.slice la log.length lc,co,ro,.slice va vs.length vc,.slice ma mt.length mc],.slice (some ⟨W2.heap.size,0,none⟩) 1 1,true]) (by simp [results,Tryz.results171,go_sem,t0,t1,t2,t3,t4,t5,t6,t7,t8]) rfl ⟨_,rfl,R3,hB3⟩
  ·have c3b:¬vo=fr:=fun e=>c3 e.symm;clear c3;by_cases c1:te=mte
   ·subst c1;clear K2;obtain rfl:y=false:=by rw [←hy];simp [c2,c3b]
    clear hy;go_upto_region 6 with fail;obtain⟨W2,hW2⟩:∃W,W=wq:=⟨_,rfl⟩;rw [←hW2] at X Y Q hB ⊢;have X2:=X;have Y2:=Y;have Q2:=Q;have hB2:=hB;have hz9:wq.heap.size≤W2.heap.size:=by rw [hW2];exact Nat.le_refl _
    clear hW2 X Y Q M hB xl x0 x1 x2 x3 x4 x5 x6 x7 x8 ml m0 m1 m2 m3 m4 m5 m6 m7 m8 ql q0 q1 q2 q3 q4 q5 q6 q7 q8 f0 f1 f2 f3 f4 f5 f6 f7 f8 h0 h1 h2 h3 h4 h5 h6 h7 h8;have hzs:=hB2.size;have hy9:=Y2.1;obtain⟨WZ,hWZ,hC3,Z3⟩:=zj_ W2 Y2 id pe te vo (.slice la log.length lc) co ro (.slice va vs.length vc) (.slice ma mt.length mc);have hze:WZ.heap.size=W2.heap.size:=by rw [hWZ];simp [put9]
    have hBa:=zb_ WZ (.cells #[(2:Int),id,fr,te,(0:Int),(0:Int),(),(0:Int),false] 80);have R:=zS_ WZ 2 id fr te 0 0 0 false;rw [hze] at R;have R3:=(zf_ R hzs).drew;have hB3:=(za_ (hB2.trans (hC3.below (B:=w.heap.size) hB2.size (fun k hk=>by omega))) hBa).drew;replace Z3:=zq_ (Z3.below hBa);clear hC3 hze;unfold put9 at hWZ;have HWZ:Hid _:=hWZ;clear hWZ;obtain⟨xl,x0,x1,x2,x3,x4,x5,x6,x7,x8⟩:=X2.e9;obtain⟨yl,y0,y1,y2,y3,y4,y5,y6,y7,y8⟩:=Y2.e9;obtain⟨ql,q0,q1,q2,q3,q4,q5,q6,q7,q8⟩:=Q2.e9;obtain⟨f0,f1,f2,f3,f4,f5,f6,f7,f8⟩:=Y2.f9;clear X2 Y2 Q2 R hBa
    go_region
    rw [←HWZ.out];clear HWZ xl x0 x1 x2 x3 x4 x5 x6 x7 x8 yl y0 y1 y2 y3 y4 y5 y6 y7 y8 ql q0 q1 q2 q3 q4 q5 q6 q7 q8 f0 f1 f2 f3 f4 f5 f6 f7 f8;generalize (WZ.alloc (.cells #[(2:Int),id,fr,te,(0:Int),(0:Int),(),(0:Int),false] 80)).drew=WE at*;obtain⟨tl,t0,t1,t2,t3,t4,t5,t6,t7,t8⟩:=Z3.e9;clear Z3;go_wp2;exact bodyPost_ret (v:= .tuple #[.agg #[id,pe,te,vo,.slice la log.length lc,co,ro,.slice va vs.length vc,.slice ma mt.length mc],.slice (some ⟨W2.heap.size,0,none⟩) 1 1,true]) (by simp [results,Tryz.results171,go_sem,t0,t1,t2,t3,t4,t5,t6,t7,t8]) rfl ⟨_,rfl,R3,hB3⟩
   ·have c1b:¬mte=te:=fun e=>c1 e.symm;clear c1;clear K2;obtain rfl:y=false:=by rw [←hy];simp [c2,c3b,c1b]
    clear hy;go_upto_region 6 with fail;obtain⟨W2,hW2⟩:∃W,W=wq:=⟨_,rfl⟩;rw [←hW2] at X Y Q hB ⊢;have X2:=X;have Y2:=Y;have Q2:=Q;have hB2:=hB;have hz9:wq.heap.size≤W2.heap.size:=by rw [hW2];exact Nat.le_refl _
    clear hW2 X Y Q M hB xl x0 x1 x2 x3 x4 x5 x6 x7 x8 ml m0 m1 m2 m3 m4 m5 m6 m7 m8 ql q0 q1 q2 q3 q4 q5 q6 q7 q8 f0 f1 f2 f3 f4 f5 f6 f7 f8 h0 h1 h2 h3 h4 h5 h6 h7 h8;have hzs:=hB2.size;have hy9:=Y2.1;obtain⟨WZ,hWZ,hC3,Z3⟩:=zj_ W2 Y2 id pe te vo (.slice la log.length lc) co ro (.slice va vs.length vc) (.slice ma mt.length mc);have hze:WZ.heap.size=W2.heap.size:=by rw [hWZ];simp [put9]
    have hBa:=zb_ WZ (.cells #[(2:Int),id,fr,te,(0:Int),(0:Int),(),(0:Int),false] 80);have R:=zS_ WZ 2 id fr te 0 0 0 false;rw [hze] at R;have R3:=(zf_ R hzs).drew;have hB3:=(za_ (hB2.trans (hC3.below (B:=w.heap.size) hB2.size (fun k hk=>by omega))) hBa).drew;replace Z3:=zq_ (Z3.below hBa);clear hC3 hze;unfold put9 at hWZ;have HWZ:Hid _:=hWZ;clear hWZ;obtain⟨xl,x0,x1,x2,x3,x4,x5,x6,x7,x8⟩:=X2.e9;obtain⟨yl,y0,y1,y2,y3,y4,y5,y6,y7,y8⟩:=Y2.e9;obtain⟨ql,q0,q1,q2,q3,q4,q5,q6,q7,q8⟩:=Q2.e9;obtain⟨f0,f1,f2,f3,f4,f5,f6,f7,f8⟩:=Y2.f9;clear X2 Y2 Q2 R hBa
    go_region
    rw [←HWZ.out];clear HWZ xl x0 x1 x2 x3 x4 x5 x6 x7 x8 yl y0 y1 y2 y3 y4 y5 y6 y7 y8 ql q0 q1 q2 q3 q4 q5 q6 q7 q8 f0 f1 f2 f3 f4 f5 f6 f7 f8;generalize (WZ.alloc (.cells #[(2:Int),id,fr,te,(0:Int),(0:Int),(),(0:Int),false] 80)).drew=WE at*;obtain⟨tl,t0,t1,t2,t3,t4,t5,t6,t7,t8⟩:=Z3.e9;clear Z3;go_wp2;exact bodyPost_ret (v:= .tuple #[.agg #[id,pe,te,vo,.slice la log.length lc,co,ro,.slice va vs.length vc,.slice ma mt.length mc],.slice (some ⟨W2.heap.size,0,none⟩) 1 1,true]) (by simp [results,Tryz.results171,go_sem,t0,t1,t2,t3,t4,t5,t6,t7,t8]) rfl ⟨_,rfl,R3,hB3⟩
theorem Chg.next {S S':Nat→Prop} {w a b:World} (h:Chg S w a) (h':Chg S' a b) (hs:∀k,S' k→S k∨w.heap.size≤k):Chg S w b:=
 ⟨h'.os.trans h.os,h'.tape.trans h.tape,h'.output.trans h.output,Nat.le_trans h.size h'.size,fun k hk hn=>(h'.block k (Nat.lt_of_lt_of_le hk h.size) (fun e=>(hs k e).elim hn (fun q=>by omega))).trans (h.block k hk hn)⟩
theorem yl_ (w:World) (q:Nat):Below w.heap.size w (w.drewN q):=⟨rfl,rfl,rfl,Nat.le_refl _,fun _ _=>rfl⟩
theorem rowI_new (w:World) (x:Int):(w.alloc (.cells #[x] 3)).ownsRow w.heap.size 3 1 (.slice (some ⟨w.heap.size,0,none⟩) 1 1) 1 [x]:=World.ownsRow_lit w #[x] 1 (Nat.le_refl _) (by simp [maxLen]) (by simp)
theorem tr_ (k p:Nat) (hk:k<p) (hp:p≤7) (te vo co ro:Int) (la:Option Addr) (lc:Nat) (va:Option Addr) (vc:Nat) (ma:Option Addr) (mc:Nat) (log:List En) (vs mt:List Int) (x:Int) (base:Nat) (w:World) (ho:OwnN w base (.slice la log.length lc) (.slice va vs.length vc) (.slice ma mt.length mc) log vs mt) (hbase:base≤w.heap.size) (hne:vs≠ []) (hs:vs.Pairwise (· ≤ ·)) (hn:vs.length≤7) (hmo:¬(p:Int)<2*(vs.length:Int)) (r:Nd) (hr:r=vbN ⟨k,p,te,vo,co,ro,log,vs,mt⟩ x):
  Calls Tryz.prog 153 #[.agg #[k,p,te,vo,.slice la log.length lc,co,ro,.slice va vs.length vc,.slice ma mt.length mc],x] w fun e w'=>∃uv um,e= .returned (.agg #[k,p,te,vo,.slice la log.length lc,co,r.ro,uv,um])∧OwnN w' base (.slice la log.length lc) uv um log r.vs r.mt∧(∀b,NB (.slice la log.length lc) uv um b→NB (.slice la log.length lc) (.slice va vs.length vc) (.slice ma mt.length mc) b∨w.heap.size≤b)∧Chg (fun b=>(Value.slice va vs.length vc).ownBlock=some b) w w':=by
 obtain⟨W0,hW0,hB,X,Y,hz0⟩:=al2 w [k,p,te,vo,.slice la log.length lc,co,ro,.slice va vs.length vc,.slice ma mt.length mc] 42 zN 42;have O:=ho.below hB;have lto:=fun b hb=>(ho.lt b hb).2;clear ho;have K1:=bsV_any va vc vs x W0 O.iv hne hs (by omega);go_enter Tryz.func153,Tryz.ntmps153;go_wp2_with fail;rw [←hW0];clear hW0;refine K1.mono ?_;rintro e w1 ⟨rfl,q,rfl⟩;clear K1;have hb:=yl_ W0 q;have hz1:=hb.size;replace hB:=za_ hB hb;replace X:=X.below hb;replace Y:=Y.below hb;replace O:=O.below hb;generalize W0.drewN q=w1 at*;clear hb;have hcle:vs.countP (fun v=>decide (v<x))≤vs.length:=List.countP_le_length;have HP:Hid (putV vs x=vs.take (vs.countP fun v=>decide (v<x))++x::vs.drop (vs.countP fun v=>decide (v<x))):=rfl;generalize vs.countP (fun v=>decide (v<x))=ci at*;have HC:Hid (hsI vs x=vs.contains x):=by show _=_;simp only [hsI,List.contains_eq_any_beq];congr 1;funext v;exact Bool.beq_comm
 generalize vs.contains x=cb at*;have hvs1:vs.length≤9223372036854775807:=by omega
 cases cb with
 | true=>
  obtain rfl:r=⟨k,p,te,vo,co,ro,log,vs,mt⟩:=by rw [hr];simp only [vbN];rw [if_pos HC.out]
  clear hr;obtain⟨xl,x0,x1,x2,x3,x4,x5,x6,x7,x8⟩:=X.e9;have hd:decide ((p:Int)<2*(vs.length:Int))=false:=by simpa using hmo
  go_wp2_with fail;refine (yB_ _ _ _ _ _ _ _ _ _ _ _ (by omega) (by omega)).mono ?_;rintro e WQ ⟨rfl,hb⟩;rw [hd];have hzb:=hb.size;have hG:Chg (fun b=>(Value.slice va vs.length vc).ownBlock=some b) w WQ:=Chg.of_below (za_ hB hb);replace hB:=(za_ hB hb).mono hbase;replace X:=X.below hb;replace Y:=Y.below hb;replace O:=O.below hb;clear hb xl x0 x1 x2 x3 x4 x5 x6 x7 x8;have apY:∀b,NB (.slice la log.length lc) (.slice va vs.length vc) (.slice ma mt.length mc) b→¬b=w.heap.size+1:=fun b hb e=>by have:=lto b hb;omega
  have hC:=zk_ WQ (w.heap.size+1) k p te vo (.slice la log.length lc) co ro (.slice va vs.length vc) (.slice ma mt.length mc);have Z:=zl_ Y k p te vo (.slice la log.length lc) co ro (.slice va vs.length vc) (.slice ma mt.length mc);have hBE:=hG.next hC (fun k hk=> .inr (by have hk:k=w.heap.size+1:=hk;omega));have OE:=O.chg hC (fun b hb hh=>by have hh:b=w.heap.size+1:=hh;exact apY b hb hh);obtain⟨xl,x0,x1,x2,x3,x4,x5,x6,x7,x8⟩:=X.e9;obtain⟨yl,y0,y1,y2,y3,y4,y5,y6,y7,y8⟩:=Y.e9;obtain⟨f0,f1,f2,f3,f4,f5,f6,f7,f8⟩:=Y.f9;clear hC X Y hB O lto apY hG;obtain⟨tl,t0,t1,t2,t3,t4,t5,t6,t7,t8⟩:=Z.e9;clear Z;unfold put9 at*;go_wp2;exact bodyPost_ret (v:= .agg #[k,p,te,vo,.slice la log.length lc,co,ro,.slice va vs.length vc,.slice ma mt.length mc]) (by simp [results,Tryz.results153,go_sem,t0,t1,t2,t3,t4,t5,t6,t7,t8]) rfl ⟨_,_,rfl,OE,fun b hb=> .inl hb,hBE⟩
 | false=>
  have BA:=zb_ w1 (.cells #[x] 3);have R:=rowI_new w1 x;have hzw:=hB.size;obtain⟨xl,x0,x1,x2,x3,x4,x5,x6,x7,x8⟩:=X.e9;have hvb:(Value.slice va vs.length vc).ownBlock≠some w1.heap.size:=fun e=>by have:=lto _ (.inr (.inl e));omega
  have K2:=insV_any va vc base w1.heap.size w1.heap.size ci vs x _ (zd_ O.v BA) R hvb (by simp;omega) hcle (by omega);go_wp2_with fail;refine K2.mono ?_;rintro e w2 ⟨u,rfl,ov,hat,hc⟩;clear K2;rw [←HP.out] at ov;have lv:∀b,(Value.slice va vs.length vc).ownBlock=some b→b<w.heap.size:=fun b hb=>lto b (.inr (.inl hb));have X1:=hc.box (X.below BA) (fun h=>by have:=lv _ h;omega);have Y1:=hc.box (Y.below BA) (fun h=>by have:=lv _ h;omega);have OL:=hc.owns (zd_ O.l BA) (fun b h1 h2=>zn_ O.l O.v (by decide) b h1 h2);have OM:=hc.owns (zd_ O.m BA) (fun b h1 h2=>O.ne b h2 h1);have hzc:=hc.size;have hza:w1.heap.size+1≤(w1.alloc (.cells #[x] 3)).heap.size:=by simp
  have nem:∀g,u.ownBlock=some g→(Value.slice ma mt.length mc).ownBlock≠some g:=fun g h1 h2=>by
   rcases hat g h1 with e | e
   ·exact O.ne g e h2
   ·have:=lto g (.inr (.inr h2));simp only [World.size_alloc] at e;omega
  have gv:=zg_ O.v;have hG2:Chg (fun b=>(Value.slice va vs.length vc).ownBlock=some b) w w2:=(Chg.of_below (za_ hB BA)).next hc (fun k hk=> .inl hk);have hB2:Below base w w2:=((za_ hB BA).mono hbase).trans (hc.below (B:=base) (by have:=(za_ hB BA).size;omega) (fun b hb=>gv b hb));have atu:∀g,u.ownBlock=some g→g<w.heap.size∨w1.heap.size≤g:=fun g h1=>by
   rcases hat g h1 with e | e
   ·exact .inl (lv g e)
   ·simp only [World.size_alloc] at e;exact .inr (by omega)
  have atv:∀g,u.ownBlock=some g→(Value.slice va vs.length vc).ownBlock=some g∨w.heap.size≤g:=fun g h1=>by
   rcases hat g h1 with e | e
   ·exact .inl e
   ·simp only [World.size_alloc] at e;exact .inr (by omega)
  have lm:∀b,(Value.slice ma mt.length mc).ownBlock=some b→b<w.heap.size:=fun b hb=>lto b (.inr (.inr hb));have ll:∀b,(Value.slice la log.length lc).ownBlock=some b→b<w.heap.size:=fun b hb=>lto b (.inl hb);have hpl:=xc_ vs x;rw [←hpl] at ov;have HPL:Hid ((putV vs x).length=vs.length+1):=hpl;clear hpl hc hat X Y O hB BA R lto hvb lv gv hcle HP hs hne xl x0 x1 x2 x3 x4 x5 x6 x7 x8;obtain⟨xa,xc,rfl⟩:=ze_ ov;rw [HPL.out] at ov atu nem atv ⊢;obtain⟨xl,x0,x1,x2,x3,x4,x5,x6,x7,x8⟩:=X1.e9;obtain⟨f0,f1,f2,f3,f4,f5,f6,f7,f8⟩:=X1.f9;go_upto_region 4 with fail;obtain⟨W3,hW3⟩:∃W,W=w2.setCell ⟨w.heap.size,7,none⟩ (.slice xa (vs.length+1) xc):=⟨_,rfl⟩;have hC:Chg (fun b=>b=w.heap.size) w2 W3:=by rw [hW3];exact Chg.setCell (S:=fun b=>b=w.heap.size) (Chg.refl _ _) rfl _
  have X:Box W3 w.heap.size [k,p,te,vo,.slice la log.length lc,co,ro,.slice xa (vs.length+1) xc,.slice ma mt.length mc]:=by rw [hW3];exact X1.set 7 _ (by simp)
  have Y:=hC.box Y1 (by omega);replace ov:=hC.owns ov (fun b hb hh=>by have:=atu b hb;have hh:b=w.heap.size:=hh;omega);replace OM:=hC.owns OM (fun b hb hh=>by have:=lm b hb;have hh:b=w.heap.size:=hh;omega);replace OL:=hC.owns OL (fun b hb hh=>by have:=ll b hb;have hh:b=w.heap.size:=hh;omega);have hB:=hB2.trans (hC.b1 (B:=base) (Nat.le_trans hbase hB2.size) (by omega));have hG:=hG2.next hC (fun k hk=> .inr (by have hk:k=w.heap.size:=hk;omega));have hz3:=hC.size;rw [←hW3];clear hW3 hC X1 Y1 hB2 hG2 xl x0 x1 x2 x3 x4 x5 x6 x7 x8 f0 f1 f2 f3 f4 f5 f6 f7 f8;obtain⟨xl,x0,x1,x2,x3,x4,x5,x6,x7,x8⟩:=X.e9;go_wp2_with fail;refine (yB_ _ _ _ _ _ _ _ _ _ _ _ (by omega) (by omega)).mono ?_;rintro e WQ ⟨rfl,hb⟩;have hzb:=hb.size;have hz4:=hB.size;replace hG:=hG.next (Chg.of_below (S:=fun _=>False) hb) (fun k hk=>hk.elim);replace hB:=hB.trans (hb.mono (Nat.le_trans hbase hB.size));replace X:=X.below hb;replace Y:=Y.below hb;replace ov:=zd_ ov hb;replace OM:=zd_ OM hb;replace OL:=zd_ OL hb;clear hb xl x0 x1 x2 x3 x4 x5 x6 x7 x8;by_cases hq:(p:Int)<2*((vs.length+1:Nat):Int)
  ·obtain rfl:r=⟨k,p,te,vo,co,2,log,[],mtZ p k log.length⟩:=by rw [hr];simp only [vbN];rw [if_neg (by rw [HC.out];decide),if_pos hq];rfl
   clear hr;have hd:decide ((p:Int)<2*((vs.length:Int)+1))=true:=by simp;omega
   rw [hd];have K3:=fun W=>tH_ k p hk hp te vo co ro la lc xa (vs.length+1) xc ma mt.length mc log W;obtain⟨xl,x0,x1,x2,x3,x4,x5,x6,x7,x8⟩:=X.e9;go_wp2_with fail;refine (K3 _).mono ?_;rintro e w5 ⟨u,rfl,oz,hb⟩;clear K3;have hzd:=hb.size;have hz5:=hB.size;replace hG:=hG.next (Chg.of_below (S:=fun _=>False) hb) (fun k hk=>hk.elim);replace hB:=hB.trans (hb.mono (Nat.le_trans hbase hB.size));replace Y:=Y.below hb;replace OL:=zd_ OL hb;have gz:=zg_ oz;clear hb ov OM X xl x0 x1 x2 x3 x4 x5 x6 x7 x8;obtain⟨mz,HMZ⟩:∃mz,Hid (mtZ p k log.length=mz):=⟨mtZ p k log.length,rfl⟩;rw [HMZ.out] at oz;have HZL:Hid (mz.length=p):=by show _=_;rw [←HMZ.out];simp [mtZ]
   rw [←HZL.out] at oz;obtain⟨za,zc,rfl⟩:=ze_ oz;have hC:=zk_ w5 (w.heap.size+1) k p te vo (.slice la log.length lc) co (.int .i64 2) () (.slice za mz.length zc);have Z:=zl_ Y k p te vo (.slice la log.length lc) co (.int .i64 2) () (.slice za mz.length zc);have hBE:=hG.next hC (fun k hk=> .inr (by have hk:k=w.heap.size+1:=hk;omega));have O5:OwnN w5 base (.slice la log.length lc) (.slice none 0 0) (.slice za mz.length zc) log [] mz:=⟨OL,World.ownsRow_nil _ _ _ _,zf_ oz (by omega),fun g hg=>by simp [Value.ownBlock] at hg⟩;have NBz:∀b,NB (.slice la log.length lc) (.slice none 0 0) (.slice za mz.length zc) b→NB (.slice la log.length lc) (.slice va vs.length vc) (.slice ma mt.length mc) b∨w.heap.size≤b:=fun b hb=>by
    rcases hb with hb | hb | hb
    ·exact .inl (.inl hb)
    ·simp [Value.ownBlock] at hb
    ·have:=gz b hb;exact .inr (by omega)
   have OE:=O5.chg hC (fun b hb hh=>by
    have hh:b=w.heap.size+1:=hh;rcases hb with hb | hb | hb
    ·have:=ll b hb;omega
    ·simp [Value.ownBlock] at hb
    ·have:=gz b hb;omega)
   obtain⟨yl,y0,y1,y2,y3,y4,y5,y6,y7,y8⟩:=Y.e9;obtain⟨f0,f1,f2,f3,f4,f5,f6,f7,f8⟩:=Y.f9;clear hC Y hB O5 OL oz gz ll lm atu atv nem hG;obtain⟨tl,t0,t1,t2,t3,t4,t5,t6,t7,t8⟩:=Z.e9;clear Z;unfold put9 at*;go_wp2;exact bodyPost_ret (v:= .agg #[k,p,te,vo,.slice la log.length lc,co,(2:Int),(),.slice za mz.length zc]) (by simp [results,Tryz.results153,go_sem,t0,t1,t2,t3,t4,t5,t6,t7,t8]) rfl ⟨_,_,rfl,by rw [HMZ.out];exact OE,NBz,hBE⟩
  ·obtain rfl:r=⟨k,p,te,vo,co,ro,log,putV vs x,mt⟩:=by rw [hr];simp only [vbN];rw [if_neg (by rw [HC.out];decide),if_neg hq]
   clear hr;have hd:decide ((p:Int)<2*((vs.length:Int)+1))=false:=by simp;omega
   rw [hd];have hC:=zk_ WQ (w.heap.size+1) k p te vo (.slice la log.length lc) co ro (.slice xa (vs.length+1) xc) (.slice ma mt.length mc);have Z:=zl_ Y k p te vo (.slice la log.length lc) co ro (.slice xa (vs.length+1) xc) (.slice ma mt.length mc);have hBE:=hG.next hC (fun k hk=> .inr (by have hk:k=w.heap.size+1:=hk;omega));have NBz:∀b,NB (.slice la log.length lc) (.slice xa (vs.length+1) xc) (.slice ma mt.length mc) b→NB (.slice la log.length lc) (.slice va vs.length vc) (.slice ma mt.length mc) b∨w.heap.size≤b:=fun b hb=>by
    rcases hb with hb | hb | hb
    ·exact .inl (.inl hb)
    ·exact (atv b hb).imp (fun e=> .inr (.inl e)) id
    ·exact .inl (.inr (.inr hb))
   have O5:OwnN WQ base (.slice la log.length lc) (.slice xa (vs.length+1) xc) (.slice ma mt.length mc) log (putV vs x) mt:=⟨OL,by rw [HPL.out];exact ov,OM,nem⟩;have OE:=O5.chg hC (fun b hb hh=>by
    have hh:b=w.heap.size+1:=hh;rcases hb with hb | hb | hb
    ·have:=ll b hb;omega
    ·have:=atu b hb;omega
    ·have:=lm b hb;omega)
   obtain⟨xl,x0,x1,x2,x3,x4,x5,x6,x7,x8⟩:=X.e9;obtain⟨yl,y0,y1,y2,y3,y4,y5,y6,y7,y8⟩:=Y.e9;obtain⟨f0,f1,f2,f3,f4,f5,f6,f7,f8⟩:=Y.f9;clear hC X Y hB O5 OL OM ov ll lm atu atv nem hG;obtain⟨tl,t0,t1,t2,t3,t4,t5,t6,t7,t8⟩:=Z.e9;clear Z;unfold put9 at*;go_wp2;exact bodyPost_ret (v:= .agg #[k,p,te,vo,.slice la log.length lc,co,ro,.slice xa (vs.length+1) xc,.slice ma mt.length mc]) (by simp [results,Tryz.results153,go_sem,t0,t1,t2,t3,t4,t5,t6,t7,t8]) rfl ⟨_,_,rfl,OE,NBz,hBE⟩
set_option maxHeartbeats 200000
theorem cp_lt (x:Int):∀(vs:List Int),vs.Pairwise (· ≤ ·)→∀i (h:i<vs.length),(vs[i]<x↔i<vs.countP fun v=>decide (v<x)):=by
 intro vs
 induction vs with
 | nil=>intro _ i h;simp at h
 | cons v r ih=>
  intro hs i h;have hs':=List.pairwise_cons.1 hs;by_cases hv:v<x
  ·have e:(v::r).countP (fun v=>decide (v<x))=r.countP (fun v=>decide (v<x))+1:=by simp [hv]
   rw [e]
   cases i with
   | zero=>simp [hv]
   | succ i=>
    simp only [List.getElem_cons_succ];rw [ih hs'.2 i (by simpa using h)];omega
  ·have e0:r.countP (fun v=>decide (v<x))=0:=by
    rw [List.countP_eq_zero];intro a ha;have:=hs'.1 a ha;simp;omega
   have e:(v::r).countP (fun v=>decide (v<x))=0:=by simp [hv,e0]
   rw [e]
   cases i with
   | zero=>simp [hv]
   | succ i=>
    simp only [List.getElem_cons_succ];have hi:i<r.length:=by simpa using h
    have:=hs'.1 r[i] (List.getElem_mem hi);omega
theorem uk_ (id pe te vo co ro:Int) (la:Option Addr) (ln lc:Nat) (va:Option Addr) (vn vc:Nat) (ma:Option Addr) (mn mc:Nat) (w:World):
  Calls Tryz.prog 161 #[.agg #[id,pe,te,vo,.slice la ln lc,co,ro,.slice va vn vc,.slice ma mn mc]] w fun e w'=>e= .returned (.int .i64 te)∧Below w.heap.size w w':=by
 go_enter Tryz.func161,Tryz.ntmps161;go_wp2;go_ret;exact⟨rfl,zb_ _ _⟩
theorem sli_to (a:Option Addr) (n cap p:Nat) (w:World) (hp:p≤cap):(Instr.sliceAt 40 (.slice a n cap) none (some (.int .i64 p)) none).run Tryz.prog w= .ok (.slice a p cap) w:=by
 have h1:(p:Int)≤(cap:Int):=by omega
 have h2:(0:Int)≤(p:Int):=by omega
 have hA:(Instr.sliceAt 40 (.slice a n cap) none (some (.int .i64 p)) none).run Tryz.prog w=(Instr.slice 40 (.slice a n cap) none (some (.int .i64 p)) none).run Tryz.prog w:=by simp [Instr.sliceAt,run_underlying Tryz.underlying40]
 rw [hA];simp [Instr.slice,Instr.sliceBounds,Instr.sliceBound,asIntOf,run_underlying Tryz.underlying40,hp,h2,Tryz.sizeOf3]
 cases a <;>simp [Addr.add]
theorem sli_from (w:World) (a:Option Addr) (cap p:Nat) (zs:List Int) (h:IL w (.slice a zs.length cap) zs) (hc:zs.length≤cap) (hp:p≤zs.length):∃a2,(∀w,(Instr.sliceAt 40 (.slice a zs.length cap) (some (.int .i64 p)) none none).run Tryz.prog w= .ok (.slice a2 (zs.length-p) (cap-p)) w)∧IL w (.slice a2 (zs.length-p) (cap-p)) (zs.drop p):=by
 refine⟨if cap=p then a else a.map (fun x=>x.add (p*1)),fun w=> ?_,?_⟩
 ·have h1:(p:Int)≤(zs.length:Int):=by omega
  have h2:(0:Int)≤(p:Int):=by omega
  have hA:(Instr.sliceAt 40 (.slice a zs.length cap) (some (.int .i64 p)) none none).run Tryz.prog w=(Instr.slice 40 (.slice a zs.length cap) (some (.int .i64 p)) none none).run Tryz.prog w:=by simp [Instr.sliceAt,run_underlying Tryz.underlying40]
  rw [hA];simp [Instr.slice,Instr.sliceBounds,Instr.sliceBound,asIntOf,run_underlying Tryz.underlying40,hp,h2,Tryz.sizeOf3]
 ·obtain⟨a',c',he,hcc⟩:=h;simp only [Value.slice.injEq,true_and] at he;obtain⟨rfl,rfl⟩:=he;refine⟨_,_,by rw [List.length_drop],fun hne=> ?_⟩;have hlt:p<zs.length:=by
   rcases Nat.lt_or_ge p zs.length with h | h
   ·exact h
   ·exact absurd (List.drop_eq_nil_of_le h) hne
  obtain⟨b,off,rfl,hb,hcell⟩:=hcc (by intro e;rw [e] at hlt;simp at hlt);rw [if_neg (by omega)];refine⟨b,off+p*1,by simp [Addr.add],hb,fun i hi=> ?_⟩;rw [List.getElem_drop];rw [List.length_drop] at hi;have hq:=hcell (p+i) (by omega);rw [show off+p*1+i=off+(p+i) from by omega];exact hq
theorem IL_to {w:World} {a:Option Addr} {cap p:Nat} {zs:List Int} (h:IL w (.slice a zs.length cap) zs) (hp:p≤zs.length):IL w (.slice a p cap) (zs.take p):=by
 obtain⟨a',c',he,hc⟩:=h;simp only [Value.slice.injEq,true_and] at he;obtain⟨rfl,rfl⟩:=he;have hlen:(zs.take p).length=p:=by simp;omega
 refine⟨a,cap,by rw [hlen],fun hne=> ?_⟩;obtain⟨b,off,rfl,hb,hcell⟩:=hc (by intro e;rw [e] at hne;simp at hne);refine⟨b,off,rfl,hb,fun i hi=> ?_⟩;rw [List.getElem_take];exact hcell i (by omega)
end Go.Proofs.YtapfhhmimkkhnaaGreat
