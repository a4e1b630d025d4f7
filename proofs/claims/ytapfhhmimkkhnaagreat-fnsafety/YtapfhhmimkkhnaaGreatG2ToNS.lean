/-
  ProposeNode: the specification's side.
  spec.TimeoutNode of one alone.
  spec.TimeoutNode of more than one.
  What nodes do, the specification's way, in one form.
-/
import Derived.Test.YtapfhhmimkkhnaaGreatNCToCC2
import Derived.Test.YtapfhhmimkkhnaaGreatF7
namespace Go.Proofs.YtapfhhmimkkhnaaGreat
open Go.RowKit Go.Maps
set_option linter.unusedVariables false
set_option maxRecDepth 100000
set_option maxHeartbeats 8000000
theorem tu_ (id pe te vo co ro:Int) (vl vv vm:Value) (log:List En) (vs mt:List Int) (d:ByteArray) (base:Nat) (w:World) (ho:OwnN w base vl vv vm log vs mt) (nl:log.length≤1048576) (nv:vs.length≤1048576) (nm:mt.length≤1048576) (ns:∀i (h:i<log.length),log[i].d.size≤1048576) (nd:d.size≤1048576):
  Calls Tryz.prog 92 #[.agg #[id,pe,te,vo,vl,co,ro,vv,vm],d] w fun e w'=>∃ul uv um,e= .returned (.tuple #[.agg #[.int .i64 (prN (prOk (zm_ id pe te vo co ro log vs mt) ro log.length d) id pe te vo co log vs mt d).id,.int .i64 (prN (prOk (zm_ id pe te vo co ro log vs mt) ro log.length d) id pe te vo co log vs mt d).pe,.int .i64 (prN (prOk (zm_ id pe te vo co ro log vs mt) ro log.length d) id pe te vo co log vs mt d).te,.int .i64 (prN (prOk (zm_ id pe te vo co ro log vs mt) ro log.length d) id pe te vo co log vs mt d).vo,ul,.int .i64 (prN (prOk (zm_ id pe te vo co ro log vs mt) ro log.length d) id pe te vo co log vs mt d).co,.int .i64 (prN (prOk (zm_ id pe te vo co ro log vs mt) ro log.length d) id pe te vo co log vs mt d).ro,uv,um],(prI (prOk (zm_ id pe te vo co ro log vs mt) ro log.length d) log.length:Int),.bool (prOk (zm_ id pe te vo co ro log vs mt) ro log.length d)])∧OwnN w' w.heap.size ul uv um (prN (prOk (zm_ id pe te vo co ro log vs mt) ro log.length d) id pe te vo co log vs mt d).log (prN (prOk (zm_ id pe te vo co ro log vs mt) ro log.length d) id pe te vo co log vs mt d).vs (prN (prOk (zm_ id pe te vo co ro log vs mt) ro log.length d) id pe te vo co log vs mt d).mt∧Below w.heap.size w w':=by
 obtain⟨W0,hW0,hB,X,Y,hz00⟩:=al2 w [id,pe,te,vo,vl,co,ro,vv,vm] 42 zN 42;have ho0:=ho.below hB;have K:=zx_ id pe te vo co ro vl vv vm log vs mt _ ho0.er ho0.iv ho0.im nl nv nm ns;have K2:=fun W (h:Below w.heap.size w W)=>yk_ id pe te vo co ro vl vv vm log vs mt W (ho.below h).er (ho.below h).iv (ho.below h).im ho.nns.1 ho.nns.2.1 ho.nns.2.2 nl nv nm;have HG:zm_ id pe te vo co ro log vs mt=true→ro=2→0≤id∧id<pe∧(mt.length:Int)=pe:=fun h h2=>by rw [h2] at h;exact xP_ h
 have h60f:zm_ id pe te vo co ro log vs mt=true→log.length≤60:=goodN_60;have HC:zm_ id pe te vo co ro log vs mt=true→0≤co∧co≤(log.length:Int):=xu_;generalize zm_ id pe te vo co ro log vs mt=g at*;obtain⟨⟨la,lc,rfl⟩,⟨va,vc,rfl⟩,ma,mc,rfl⟩:=ho.shapes;clear ns ho0 ho;have hok:(prOk g ro log.length d=true∧g=true∧ro=2∧log.length<60∧d.size≤100)∨(prOk g ro log.length d=false∧(g=false∨(g=true∧(¬ro=2∨(ro=2∧(60≤log.length∨(log.length<60∧100<d.size))))))):=by
  unfold prOk
  cases g
  ·exact .inr ⟨rfl,.inl rfl⟩
  ·by_cases h1:ro=2
   ·by_cases h2:log.length<60
    ·by_cases h3:d.size≤100
     ·exact .inl ⟨by simp [h1];omega,rfl,h1,h2,h3⟩
     ·exact .inr ⟨by simp [h1];omega,.inr ⟨rfl,.inr ⟨h1,.inr ⟨h2,by omega⟩⟩⟩⟩
    ·exact .inr ⟨by simp [h1];omega,.inr ⟨rfl,.inr ⟨h1,.inl (by omega)⟩⟩⟩
   ·exact .inr ⟨by simp [h1],.inr ⟨rfl,.inl h1⟩⟩
 rcases hok with⟨he,rfl,rfl,hlen,hd⟩ | ⟨he,hcs⟩;rotate_left
 ·rw [he];show Calls Tryz.prog 92 _ w fun e w'=>∃ul uv um,e= .returned (.tuple #[.agg #[(0:Int),(0:Int),(0:Int),(0:Int),ul,(0:Int),(0:Int),uv,um],(0:Int),false])∧OwnN w' w.heap.size ul uv um [] [] []∧Below w.heap.size w w';clear he HG HC K2;go_enter Tryz.func92,Tryz.ntmps92;go_wp2_with fail;rw [←hW0];clear hW0;refine K.mono ?_;rintro e w1 ⟨rfl,hb⟩;replace hB:=za_ hB hb;replace Y:=Y.below hb;replace X:=X.below hb;clear K hb;have hC:=zk_ w1 (w.heap.size+1) (0:Int) (0:Int) (0:Int) (0:Int) () (0:Int) (0:Int) () ();have Z:=zl_ Y (0:Int) (0:Int) (0:Int) (0:Int) () (0:Int) (0:Int) () ();have hBE:=hB.trans (hC.b1 hB.size (by omega));have O:=OwnN.nil (put9 w1 (w.heap.size+1) (.int .i64 0) (.int .i64 0) (.int .i64 0) (.int .i64 0) (.slice none 0 0) (.int .i64 0) (.int .i64 0) (.slice none 0 0) (.slice none 0 0)) w.heap.size;obtain⟨hxl,x0,x1,x2,x3,x4,x5,x6,x7,x8⟩:=X.e9;obtain⟨hyl,y0,y1,y2,y3,y4,y5,y6,y7,y8⟩:=Y.e9;obtain⟨f0,f1,f2,f3,f4,f5,f6,f7,f8⟩:=Y.f9;obtain⟨hzl,t0,t1,t2,t3,t4,t5,t6,t7,t8⟩:=Z.e9;clear Z hC hB Y X;unfold put9 at*;rcases hcs with rfl | ⟨rfl,hcs⟩
  ·go_wp2;exact bodyPost_ret (v:= .tuple #[.agg zN,(0:Int),false]) (by simp [results,Tryz.results92,go_sem,t0,t1,t2,t3,t4,t5,t6,t7,t8]) rfl ⟨_,_,_,rfl,O,hBE⟩
  rcases hcs with h1 | ⟨rfl,hcs⟩
  ·have h1b:(ro !=2)=true:=by simp [h1]
   go_wp2;exact bodyPost_ret (v:= .tuple #[.agg zN,(0:Int),false]) (by simp [results,Tryz.results92,go_sem,t0,t1,t2,t3,t4,t5,t6,t7,t8]) rfl ⟨_,_,_,rfl,O,hBE⟩
  have h60:=h60f rfl;rcases hcs with h2 | ⟨h2,h3⟩
  ·have h2b:((log.length:Int)==60)=true:=by simp;omega
   go_wp2;exact bodyPost_ret (v:= .tuple #[.agg zN,(0:Int),false]) (by simp [results,Tryz.results92,go_sem,t0,t1,t2,t3,t4,t5,t6,t7,t8]) rfl ⟨_,_,_,rfl,O,hBE⟩
  ·have h2b:((log.length:Int)==60)=false:=by simp;omega
   have h3b:(100:Int)<(d.size:Int):=by omega
   go_wp2;exact bodyPost_ret (v:= .tuple #[.agg zN,(0:Int),false]) (by simp [results,Tryz.results92,go_sem,t0,t1,t2,t3,t4,t5,t6,t7,t8]) rfl ⟨_,_,_,rfl,O,hBE⟩
 obtain⟨i0,i1,hmp⟩:=HG rfl rfl;obtain⟨hc0,hc1⟩:=HC rfl;rw [he];obtain⟨i,rfl⟩:=Int.eq_ofNat_of_zero_le i0;have hil:i<mt.length:=by omega
 show Calls Tryz.prog 92 _ w fun e w'=>∃ul uv um,e= .returned (.tuple #[.agg #[i,pe,te,vo,ul,(zv_ te pe co (log++ [⟨te,d⟩]) (mt.set i ((log.length:Int)+1)) (log.length+1):Int),(2:Int),uv,um],((log.length:Int)+1:Int),true])∧OwnN w' w.heap.size ul uv um (log++ [⟨te,d⟩]) vs (mt.set i ((log.length:Int)+1))∧Below w.heap.size w w';clear he HG HC hmp;go_enter Tryz.func92,Tryz.ntmps92;go_wp2_with fail;rw [←hW0];clear hW0;refine K.mono ?_;rintro e w1 ⟨rfl,hb⟩;replace hB:=za_ hB hb;replace Y:=Y.below hb;replace X:=X.below hb;have hz1:=hb.size;clear K hb;obtain⟨hxl,x0,x1,x2,x3,x4,x5,x6,x7,x8⟩:=X.e9;have hlb:((log.length:Int)==60)=false:=by simp;omega
 have hdb:¬(100:Int)<(d.size:Int):=by omega
 go_wp2_with fail;refine (K2 _ hB).mono ?_;rintro e w2 ⟨u1,u2,u3,rfl,O,hb⟩;replace hB:=za_ hB hb;replace Y:=Y.below hb;replace X:=X.below hb;have hz2:=hb.size;clear K2 hb hxl x0 x1 x2 x3 x4 x5 x6 x7 x8;have gO:=fun b hb=>(O.lt b hb).1;obtain⟨⟨ua,uc,rfl⟩,⟨xa,xc,rfl⟩,_⟩:=O.shapes;obtain⟨g3,yc,rfl⟩:∃g3 yc,u3= .slice (some ⟨g3,0,none⟩) mt.length yc:=by
  rcases O.m.2 with⟨_,h0⟩ | ⟨g,cap,cur,h,_⟩
  ·omega
  ·exact⟨g,cap,h⟩
 obtain⟨hxl,x0,x1,x2,x3,x4,x5,x6,x7,x8⟩:=X.e9;obtain⟨e0,e1,e2,e3,e4,e5,e6,e7,e8⟩:=X.f9;go_upto_region 4 with fail;obtain⟨W2,hW2,hC,X2⟩:=zj_ w2 X i pe te vo (.slice ua log.length uc) co (.int .i64 2) (.slice xa vs.length xc) (.slice (some ⟨g3,0,none⟩) mt.length yc);have Y2:=hC.box Y (by omega);have O2:=O.chg hC (fun b hb hh=>by have:=gO b hb;have hh:b=w.heap.size:=hh;omega);have hB2:=hB.trans (hC.b1 hB.size (by omega));have hzW2:w2.heap.size≤W2.heap.size:=hC.size;unfold put9 at hW2;rw [←hW2];clear hW2 hC X Y O hB hxl x0 x1 x2 x3 x4 x5 x6 x7 x8 e0 e1 e2 e3 e4 e5 e6 e7 e8;obtain⟨hxl,x0,x1,x2,x3,x4,x5,x6,x7,x8⟩:=X2.e9;have f4:=X2.2.2 4;have hBa:=zb_ W2 (.cells #[te,d] 44);have Oa:=O2.below hBa;have hE:ER (W2.alloc (.cells #[te,d] 44)) (.slice (some ⟨W2.heap.size,0,none⟩) 1 1) [⟨te,d⟩]:=by
  refine⟨_,_,rfl,fun _=>⟨W2.heap.size,0,rfl,by simp,fun k hk=> ?_⟩⟩;obtain rfl:k=0:=by simpa using hk
  simp
 go_wp2_with (at_builtin;refine zs_.go ?_);unfold zs_;refine zE_ _ rfl _ _ rfl rfl w1.heap.size _ log.length log rfl Oa.l _ [⟨te,d⟩] rfl hE (by simp;omega) (by simp;omega) ?_;intro u w4 o4 hgr;simp only [List.length_cons,List.length_nil,Nat.zero_add] at o4;have gl:=zg_ Oa.l;have nlv:=zn_ Oa.l Oa.v (by decide);have nlm:=zn_ Oa.l Oa.m (by decide);have ov:=Oa.v.kept hgr (by
  cases h:(Value.slice xa vs.length xc).ownBlock with
  | none=>exact .inl rfl
  | some b=>exact .inr fun hh=>nlv b hh.symm h)
 have om:=Oa.m.kept hgr (.inr fun hh=>nlm g3 hh.symm rfl);have hb4:Below (w.heap.size+1+1) (W2.alloc (.cells #[te,d] 44)) w4:=(Below.refl _ _).grown hgr (by simp;omega) (fun k hk=>by have:=gl k hk;omega);have X4:=(X2.below hBa).under hb4 (by omega);have Y4:=(Y2.below hBa).under hb4 (by omega);have hB4:=(za_ hB2 hBa).trans (hb4.mono (by omega));have hz4:W2.heap.size+1≤w4.heap.size:=by have:=hb4.size;simpa using this
 have nvm:=Oa.ne;obtain⟨na,nc,rfl⟩:=ze_ o4;have lo4:=zg_ o4;have gv:=zg_ ov;have gm:=zg_ om;clear hBa Oa hE hgr O2 X2 Y2 hB2 gl nlv nlm hb4 hxl x0 x1 x2 x3 x4 x5 x6 x7 x8 f4 gO;obtain⟨hxl,x0,x1,x2,x3,x4,x5,x6,x7,x8⟩:=X4.e9;have f4:=X4.2.2 4;go_upto_region 5 with fail;obtain⟨W4,hW4⟩:∃W4,W4=w4.setCell ⟨w.heap.size,4,none⟩ (.slice na (log.length+1) nc):=⟨_,rfl⟩;have hC:Chg (fun k=>k=w.heap.size) w4 W4:=by rw [hW4];exact Chg.setCell (S:=fun k=>k=w.heap.size) (Chg.refl _ _) rfl _
 have X5:Box W4 w.heap.size [i,pe,te,vo,.slice na (log.length+1) nc,co,(2:Int),.slice xa vs.length xc,.slice (some ⟨g3,0,none⟩) mt.length yc]:=by rw [hW4];exact X4.set 4 _ (by simp)
 have Y5:=hC.box Y4 (by omega);have o5:=hC.owns o4 (fun b hb hh=>by have:=lo4 b hb;have hh:b=w.heap.size:=hh;omega);have ov5:=hC.owns ov (fun b hb hh=>by have:=gv b hb;have hh:b=w.heap.size:=hh;omega);have om5:=hC.owns om (fun b hb hh=>by have:=gm b hb;have hh:b=w.heap.size:=hh;omega);have hB5:=hB4.trans (hC.b1 hB4.size (by omega));rw [←hW4];have hzW4:w4.heap.size≤W4.heap.size:=hC.size;clear hW4 hC X4 Y4 o4 ov om hB4 hxl x0 x1 x2 x3 x4 x5 x6 x7 x8 f4;obtain⟨hxl,x0,x1,x2,x3,x4,x5,x6,x7,x8⟩:=X5.e9;have hg3:=xk_ om5;obtain⟨ui,hui⟩:∃u,W4.cell? ⟨g3,i,none⟩=some u:=by
  rw [om5.cellAt i (by omega)];exact⟨_,List.getElem?_eq_getElem (by simpa using hil)⟩
 have fi:=om5.frozenAt i;have om6:=(om5.stored i (.int .i64 ((log.length:Int)+1))).1;rw [show (mt.map (Value.int .i64)).set i (.int .i64 ((log.length:Int)+1))=(mt.set i ((log.length:Int)+1)).map (.int .i64) from by rw [List.map_set]] at om6;have nmg:∀b,(.slice na (log.length+1) nc:Value).ownBlock=some b→b≠g3:=fun b h e=>zn_ o5 om5 (by decide) b h (by rw [e];rfl);have nvg:∀b,(.slice xa vs.length xc:Value).ownBlock=some b→b≠g3:=fun b h e=>nvm b h (by rw [e];rfl);have gg3:=gm g3 rfl;go_upto_region 6 with fail;obtain⟨W5,hW5⟩:∃W5,W5=W4.setCell ⟨g3,i,none⟩ (.int .i64 ((log.length:Int)+1)):=⟨_,rfl⟩;have hC:Chg (fun k=>k=g3) W4 W5:=by rw [hW5];exact Chg.setCell (S:=fun k=>k=g3) (Chg.refl _ _) rfl _
 have X6:=hC.box X5 (by omega);have Y6:=hC.box Y5 (by omega);have o6:=hC.owns o5 (fun b hb hh=>nmg b hb hh);have ov6:=hC.owns ov5 (fun b hb hh=>nvg b hb hh);rw [←hW5] at om6 ⊢;have hB6:=hB5.trans (hC.b1 hB5.size (by omega));have hzW5:W4.heap.size≤W5.heap.size:=hC.size;clear hW5 hC X5 Y5 o5 ov5 om5 hB5 hxl x0 x1 x2 x3 x4 x5 x6 x7 x8 fi hui ui;have hml:(mt.set i ((log.length:Int)+1)).length=mt.length:=by simp
 have O6:OwnN W5 w1.heap.size (.slice na (log.length+1) nc) (.slice xa vs.length xc) (.slice (some ⟨g3,0,none⟩) mt.length yc) (log++ [⟨te,d⟩]) vs (mt.set i ((log.length:Int)+1)):=⟨by rw [xO_];exact o6,ov6,by rw [hml];exact om6,fun g hg hg'=>nvg g hg (by simpa [Value.ownBlock] using hg'.symm)⟩;have gO6:=fun b hb=>(O6.lt b hb).1;have KM:=fun W (h:Below W5.heap.size W5 W)=>yS_ i pe te vo co _ _ _ (log++ [⟨te,d⟩]) vs (mt.set i ((log.length:Int)+1)) W (O6.below h).er (O6.below h).iv (O6.below h).im (by rw [xO_];omega) (by rw [hml];omega) hc0;rw [xO_] at KM;obtain⟨cm,HCM⟩:∃cm:Int,Hid (zv_ te pe co (log++ [(⟨te,d⟩:En)]) (mt.set i ((log.length:Int)+1)) (log.length+1)=cm):=⟨zv_ te pe co (log++ [(⟨te,d⟩:En)]) (mt.set i ((log.length:Int)+1)) (log.length+1),rfl⟩;rw [HCM.out] at KM;have HO6:Hid (OwnN W5 w1.heap.size (.slice na (log.length+1) nc) (.slice xa vs.length xc) (.slice (some ⟨g3,0,none⟩) mt.length yc) (log++ [⟨te,d⟩]) vs (mt.set i ((log.length:Int)+1))):=O6;clear o6 ov6 om6 hml O6 nmg nvg nvm lo4 gv gm;have hD:Below W5.heap.size W5 W5.drew:=(Below.refl _ _).drew;replace X6:=X6.below hD;replace Y6:=Y6.below hD;replace hB6:=za_ hB6 hD;refine wp_region_held_drew (S:=fun w'=>Box w' w.heap.size [i,pe,te,vo,.slice na (log.length+1) nc,co,(2:Int),.slice xa vs.length xc,.slice (some ⟨g3,0,none⟩) mt.length yc]) (by kernel_rfl) X6 (fun zc_=> ?_);obtain⟨v0,hv0⟩:∃v0,v0=W5.drew:=⟨_,rfl⟩;rw [←hv0] at X6 Y6 hB6 hD ⊢;clear hv0;refine tkH 0 (.agg #[i,pe,te,vo,.slice na (log.length+1) nc,co,(2:Int),.slice xa vs.length xc,.slice (some ⟨g3,0,none⟩) mt.length yc]) rfl ?_ ?_
 ·intro wx hSw;have e0:=hSw.2.1 0 _ rfl;have e1:=hSw.2.1 1 _ rfl;have e2:=hSw.2.1 2 _ rfl;have e3:=hSw.2.1 3 _ rfl;have e4:=hSw.2.1 4 _ rfl;have e5:=hSw.2.1 5 _ rfl;have e6:=hSw.2.1 6 _ rfl;have e7:=hSw.2.1 7 _ rfl;have e8:=hSw.2.1 8 _ rfl;clear zc_;go_simp
 simp only [Act.put,sA_,sB_,sC_];refine tkH 2 (.pointer (some ⟨w.heap.size,4,none⟩)) rfl ?_ ?_
 ·intro wx hSw;clear hSw zc_;go_simp
 simp only [Act.put,sA_,sB_,sC_];refine tkH 3 (.slice na (log.length+1) nc) rfl ?_ ?_
 ·intro wx hSw;have e4:=hSw.2.1 4 _ rfl;clear zc_;go_simp
 simp only [Act.put,sA_,sB_,sC_];refine tkH 4 (.int .i64 ((log.length:Int)+1)) rfl ?_ ?_
 ·intro wx hSw;clear hSw zc_;go_simp
 simp only [Act.put,sA_,sB_,sC_];refine rd1 1 rfl (fun K hK=> ?_);clear zc_;go_simp;refine (KM _ hD).mono ?_;rintro e w7 ⟨rfl,hb7⟩;replace X6:=X6.below hb7;replace Y6:=Y6.below hb7;replace hB6:=za_ hB6 hb7;have O7:=(HO6.out.below hD).below hb7;have hz7:=hb7.size;clear KM;refine hK.out _ _ X6 (fun zc_=> ?_);clear hK K;refine rd1 5 rfl (fun K hK=> ?_);clear zc_;have hC:=zk_ w7 (w.heap.size+1) i pe te vo (.slice na (log.length+1) nc) cm (.int .i64 2) (.slice xa vs.length xc) (.slice (some ⟨g3,0,none⟩) mt.length yc);have Z:=zl_ Y6 i pe te vo (.slice na (log.length+1) nc) cm (.int .i64 2) (.slice xa vs.length xc) (.slice (some ⟨g3,0,none⟩) mt.length yc);have X8:=hC.box X6 (by omega);have O8:=(O7.chg hC (fun b hb hh=>by have:=gO6 b hb;have hh:b=w.heap.size+1:=hh;omega)).mono (show w.heap.size≤w1.heap.size from by omega);have hBE:=hB6.trans (hC.b1 hB6.size (by omega));obtain⟨hyl,y0,y1,y2,y3,y4,y5,y6,y7,y8⟩:=Y6.e9;obtain⟨f0,f1,f2,f3,f4,f5,f6,f7,f8⟩:=Y6.f9;clear hC X6 Y6 hB6 O7 HO6 hb7 hD;obtain⟨WZ,hWZ⟩:∃WZ,WZ=put9 w7 (w.heap.size+1) (.int .i64 i) (.int .i64 pe) (.int .i64 te) (.int .i64 vo) (.slice na (log.length+1) nc) (.int .i64 cm) (.int .i64 2) (.slice xa vs.length xc) (.slice (some ⟨g3,0,none⟩) mt.length yc):=⟨_,rfl⟩;rw [←hWZ] at Z X8 O8 hBE;unfold put9 at hWZ;go_simp;rw [←hWZ];refine hK.out _ _ X8 (fun zc_=> ?_);clear hK K hWZ hyl y0 y1 y2 y3 y4 y5 y6 y7 y8 f0 f1 f2 f3 f4 f5 f6 f7 f8;refine tkH 6 (.int .i64 ((log.length:Int)+1)) rfl ?_ ?_
 ·intro wx hSw;clear hSw zc_;go_simp
 simp only [Act.put,sA_,sB_,sC_];refine tkH 7 (.bool true) rfl ?_ ?_
 ·intro wx hSw;clear hSw zc_;go_simp
 simp only [Act.put,sA_,sB_,sC_];clear zc_;refine wpAnyH_done (by kernel_rfl) ?_ _;obtain⟨hzl,t0,t1,t2,t3,t4,t5,t6,t7,t8⟩:=Z.e9;clear Z X8;go_wp2;exact bodyPost_ret (v:= .tuple #[.agg #[i,pe,te,vo,.slice na (log.length+1) nc,cm,(2:Int),.slice xa vs.length xc,.slice (some ⟨g3,0,none⟩) mt.length yc],((log.length:Int)+1:Int),true]) (by simp [results,Tryz.results92,go_sem,t0,t1,t2,t3,t4,t5,t6,t7,t8]) rfl ⟨_,_,_,by rw [HCM.out],O8,hBE⟩
set_option maxHeartbeats 16000000
theorem tt_ (te vo co ro:Int) (vl vv vm:Value) (log:List En) (vs mt:List Int) (base:Nat) (w:World) (ho:OwnN w base vl vv vm log vs mt) (nl:log.length≤1048576) (nv:vs.length≤1048576) (nm:mt.length≤1048576) (ns:∀i (h:i<log.length),log[i].d.size≤1048576) (he:tmOk (zm_ 0 1 te vo co ro log vs mt) ro te=true):
  Calls Tryz.prog 91 #[.agg #[(0:Int),(1:Int),te,vo,vl,co,ro,vv,vm]] w fun e w'=>∃ul um,e= .returned (.tuple #[.agg #[(0:Int),(1:Int),(te+1:Int),(0:Int),ul,co,(2:Int),(),um],(),true])∧OwnN w' w.heap.size ul (.slice none 0 0) um log [] [(log.length:Int)]∧Below w.heap.size w w':=by
 obtain⟨W0,hW0,hB,X,Y,hz00⟩:=al2 w [(0:Int),(1:Int),te,vo,vl,co,ro,vv,vm] 42 zN 42;have ho0:=ho.below hB;have K:=zx_ 0 1 te vo co ro vl vv vm log vs mt _ ho0.er ho0.iv ho0.im nl nv nm ns;have K2:=fun W (h:Below w.heap.size w W)=>yk_ 0 1 te vo co ro vl vv vm log vs mt W (ho.below h).er (ho.below h).iv (ho.below h).im ho.nns.1 ho.nns.2.1 ho.nns.2.2 nl nv nm;have HG:zm_ 0 1 te vo co ro log vs mt=true→0≤te∧log.length≤60:=fun h=>(yH_ h).2.2.2;have HC:zm_ 0 1 te vo co ro log vs mt=true→0≤co:=fun h=>(xu_ h).1;have HM:zm_ 0 1 te vo co ro log vs mt=true→zv_ (te+1) 1 co log [(log.length:Int)] log.length=co:=fun h=>tQ_ h _ _;generalize zm_ 0 1 te vo co ro log vs mt=g at*;obtain⟨⟨la,lc,rfl⟩,⟨va,vc,rfl⟩,ma,mc,rfl⟩:=ho.shapes;clear ns ho0 ho;rcases xn_ g ro te with⟨_,rfl,h1,h2⟩ | ⟨h,_⟩;rotate_left
 ·rw [he] at h;cases h
 obtain⟨i3,i4⟩:=HG rfl;have hc0:=HC rfl;have HCM:Hid (zv_ (te+1) 1 co log [(log.length:Int)] log.length=co):=HM rfl;clear he HG HC HM;go_enter Tryz.func91,Tryz.ntmps91;go_wp2_with fail;rw [←hW0];clear hW0;refine K.mono ?_;rintro e w1 ⟨rfl,hb⟩;replace hB:=za_ hB hb;replace Y:=Y.below hb;replace X:=X.below hb;have hz1:=hb.size;clear K hb;obtain⟨hxl,x0,x1,x2,x3,x4,x5,x6,x7,x8⟩:=X.e9;have h1b:(ro==2)=false:=by simp [h1]
 have h2b:(te==1000)=false:=by simp;omega
 go_wp2_with fail;refine (K2 _ hB).mono ?_;rintro e w2 ⟨u1,u2,u3,rfl,O,hb⟩;replace hB:=za_ hB hb;replace Y:=Y.below hb;replace X:=X.below hb;have hz2:=hb.size;clear K2 hb hxl x0 x1 x2 x3 x4 x5 x6 x7 x8;have gl:=zg_ O.l;obtain⟨⟨ua,uc,rfl⟩,⟨pa,pc,rfl⟩,qa,qc,rfl⟩:=O.shapes;have ol:=O.l;clear O;obtain⟨hxl,x0,x1,x2,x3,x4,x5,x6,x7,x8⟩:=X.e9;obtain⟨e0,e1,e2,e3,e4,e5,e6,e7,e8⟩:=X.f9;go_upto_region 4 with fail;obtain⟨W3,hW3,hC,put_⟩:=zj_ w2 X (0:Int) (.int .i64 1) te vo (.slice ua log.length uc) co ro (.slice pa vs.length pc) (.slice qa mt.length qc);clear X;have X:=put_;clear put_;replace Y:=hC.box Y (by omega);replace ol:=hC.owns ol (fun b hb hh=>by have:=gl b hb;have hh:b=w.heap.size:=hh;omega);replace hB:=hB.trans (hC.b1 hB.size (by omega));have hz4:w2.heap.size≤W3.heap.size:=hC.size;unfold put9 at hW3;rw [←hW3];clear hW3 hC hxl x0 x1 x2 x3 x4 x5 x6 x7 x8 e0 e1 e2 e3 e4 e5 e6 e7 e8;obtain⟨hxl,x0,x1,x2,x3,x4,x5,x6,x7,x8⟩:=X.e9;obtain⟨e0,e1,e2,e3,e4,e5,e6,e7,e8⟩:=X.f9;go_upto_region 7 with fail;obtain⟨W4,hW4⟩:∃W,W=((W3.setCell ⟨w.heap.size,2,none⟩ (.int .i64 (te+1))).setCell ⟨w.heap.size,3,none⟩ (.int .i64 0)).setCell ⟨w.heap.size,6,none⟩ (.int .i64 1):=⟨_,rfl⟩;have hC:Chg (fun k=>k=w.heap.size) W3 W4:=by rw [hW4];exact Chg.setCell (S:=fun k=>k=w.heap.size) (Chg.setCell (S:=fun k=>k=w.heap.size) (Chg.setCell (S:=fun k=>k=w.heap.size) (Chg.refl _ _) rfl _) rfl _) rfl _
 replace X:Box W4 w.heap.size [(0:Int),(1:Int),(te+1:Int),(0:Int),.slice ua log.length uc,co,(1:Int),.slice pa vs.length pc,.slice qa mt.length qc]:=by rw [hW4];exact ((X.set 2 _ (by simp)).set 3 _ (by simp)).set 6 _ (by simp)
 replace Y:=hC.box Y (by omega);replace ol:=hC.owns ol (fun b hb hh=>by have:=gl b hb;have hh:b=w.heap.size:=hh;omega);replace hB:=hB.trans (hC.b1 hB.size (by omega));have hz5:W3.heap.size≤W4.heap.size:=hC.size;rw [←hW4];clear hW4 hC hxl x0 x1 x2 x3 x4 x5 x6 x7 x8 e0 e1 e2 e3 e4 e5 e6 e7 e8;obtain⟨hxl,x0,x1,x2,x3,x4,x5,x6,x7,x8⟩:=X.e9;have e7:=X.2.2 7;go_upto_region 8 with fail;obtain⟨W6,hW6⟩:∃W,W=W4.setCell ⟨w.heap.size,7,none⟩ (.slice (some ⟨W4.heap.size,0,none⟩) 1 1):=⟨_,rfl⟩;have hC:Chg (fun k=>k=w.heap.size) W4 W6:=by rw [hW6];exact Chg.setCell (S:=fun k=>k=w.heap.size) (Chg.refl _ _) rfl _
 replace X:Box W6 w.heap.size [(0:Int),(1:Int),(te+1:Int),(0:Int),.slice ua log.length uc,co,(1:Int),.slice (some ⟨W4.heap.size,0,none⟩) 1 1,.slice qa mt.length qc]:=by rw [hW6];exact X.set 7 _ (by simp)
 replace Y:=hC.box Y (by omega);replace ol:=hC.owns ol (fun b hb hh=>by have:=gl b hb;have hh:b=w.heap.size:=hh;omega);replace hB:=hB.trans (hC.b1 hB.size (by omega));have hz6:=hC.size;rw [←hW6];clear hW6;have BA:=zb_ W6 (.cells #[(0:Int)] 3);replace X:=X.below BA;replace Y:=Y.below BA;replace ol:=zd_ ol BA;replace hB:=za_ hB BA;have hz7:=BA.size;obtain⟨W5,hW5⟩:∃W,W=W6.alloc (.cells #[(0:Int)] 3):=⟨_,rfl⟩;rw [←hW5] at X Y ol hB hz7 ⊢;clear hW5 hC BA hxl x0 x1 x2 x3 x4 x5 x6 x7 x8 e7;obtain⟨hxl,x0,x1,x2,x3,x4,x5,x6,x7,x8⟩:=X.e9;have OL:OwnN W5 w1.heap.size (.slice ua log.length uc) (.slice none 0 0) (.slice none 0 0) log [] []:=⟨ol,World.ownsRow_nil _ _ _ _,World.ownsRow_nil _ _ _ _,fun g hg=>by simp [Value.ownBlock] at hg⟩;have hER:=OL.er;clear OL;go_wp2_with fail;refine (rp_ (te+1) 0 co 1 ua uc log _ _ _ _ _ _ _ hER nl hc0).mono ?_;rintro e w6 ⟨u,rfl,om,hb⟩;rw [HCM.out];replace hB:=za_ hB hb;replace Y:=Y.below hb;replace ol:=zd_ ol hb;have gm:=zg_ om;clear hb X hxl x0 x1 x2 x3 x4 x5 x6 x7 x8 hER HCM;obtain⟨ya,yc,rfl⟩:=ze_ om;have hC:=zk_ w6 (w.heap.size+1) (0:Int) (.int .i64 1) (.int .i64 (te+1)) (0:Int) (.slice ua log.length uc) co (.int .i64 2) () (.slice ya 1 yc);have Z:=zl_ Y (0:Int) (.int .i64 1) (.int .i64 (te+1)) (0:Int) (.slice ua log.length uc) co (.int .i64 2) () (.slice ya 1 yc);have O8:OwnN _ w.heap.size (.slice ua log.length uc) (.slice none 0 0) (.slice ya 1 yc) log [] [(log.length:Int)]:=⟨zf_ (hC.owns ol (fun b hb hh=>by have:=gl b hb;have hh:b=w.heap.size+1:=hh;omega)) (by omega),World.ownsRow_nil _ _ _ _,zf_ (hC.owns om (fun b hb hh=>by have:=gm b hb;have hh:b=w.heap.size+1:=hh;omega)) (by omega),fun g hg=>by simp [Value.ownBlock] at hg⟩;have hBE:=hB.trans (hC.b1 hB.size (by omega));obtain⟨ql,q0,q1,q2,q3,q4,q5,q6,q7,q8⟩:=Y.e9;obtain⟨k0,k1,k2,k3,k4,k5,k6,k7,k8⟩:=Y.f9;clear hC ol om hB Y gl gm;obtain⟨hzl,t0,t1,t2,t3,t4,t5,t6,t7,t8⟩:=Z.e9;clear Z;unfold put9 at*;go_wp2;exact bodyPost_ret (v:= .tuple #[.agg #[(0:Int),(1:Int),(te+1:Int),(0:Int),.slice ua log.length uc,co,(2:Int),(),.slice ya 1 yc],(),true]) (by simp [results,Tryz.results91,go_sem,t0,t1,t2,t3,t4,t5,t6,t7,t8]) rfl ⟨_,_,rfl,O8,hBE⟩
theorem uP_ (w:World) {o:Oper} {a:Act} {K:Act→World→Prop} {Q:Exit→Act→World→Prop} (s x:Operand)
  (ho:o.op= .call ⟨.builtin .append,#[s,x],#[27,27]⟩) (hty:o.type=27)
  (base:Nat) (v:Value) (n:Nat) (zs:List Mq) (hs:a.eval s=v) (hown:w.ownsRow base 80 9 v n (zW_ zs))
  (b:Nat) (q:Mq) (hx:a.eval x= .slice (some ⟨b,0,none⟩) 1 1) (hI:Box w b [q.ki,q.fr,q.dst,q.te,q.ix,q.be,(),q.co,q.ye]) (hn:n+1≤2000000) (hbase:base≤w.heap.size)
  (h:∀v' w',w'.ownsRow base 80 9 v' (n+1) (zW_ (zs++ [q]))→w.grownBy w' v.ownBlock→K (a.put o.dst v') w'):o.wp Tryz.prog a w K Q:=by
 obtain⟨i0,hi,hz0,hzs,hzb⟩:=info_parts Tryz.info80;refine wp_append_own _ s x 27 ho base 80 i0 (.agg zM) 9 88 Tryz.underlying27 hi hz0 hzs hzb rfl (by decide) v n (zW_ zs) hs hown ⟨b,0,none⟩ 1 1 (zW_ [q]) hx rfl ?_ ?_ (by unfold maxLen;omega) (by omega) hbase fun v' w' h1 h2 _=>h v' w' (by rw [vK_];exact h1) h2
 ·intro j u hj;rw [show (⟨b,0,none⟩:Addr).add j=⟨b,j,none⟩ from by simp [Addr.add];omega];exact hI.2.1 j u hj
 ·intro u hu;simp only [zW_,List.mem_cons,List.not_mem_nil,or_false] at hu;rcases hu with rfl | rfl | rfl | rfl | rfl | rfl | rfl | rfl | rfl <;>rfl
theorem uS_ (id pe te vo co ro:Int) (vl vv vm:Value) (log:List En) (vs mt:List Int) (base:Nat) (w:World) (ho:OwnN w base vl vv vm log vs mt) (nl:log.length≤1048576) (nv:vs.length≤1048576) (nm:mt.length≤1048576) (ns:∀i (h:i<log.length),log[i].d.size≤1048576) (he:tmOk (zm_ id pe te vo co ro log vs mt) ro te=true) (hp2:2≤pe):
  Calls Tryz.prog 91 #[.agg #[id,pe,te,vo,vl,co,ro,vv,vm]] w fun e w'=>∃ul uv um uq,e= .returned (.tuple #[.agg #[id,pe,(te+1:Int),id,ul,co,(1:Int),uv,um],uq,true])∧OwnN w' w.heap.size ul uv um log [id] []∧w'.ownsRow w.heap.size 80 9 uq (zC_ id (te+1) log.length (tmAt log log.length) pe.toNat).length (zW_ (zC_ id (te+1) log.length (tmAt log log.length) pe.toNat))∧Below w.heap.size w w':=by
 obtain⟨pn,rfl⟩:=Int.eq_ofNat_of_zero_le (show 0≤pe from by omega);rw [Int.toNat_natCast];obtain⟨W0,hW0,hB,X,Y,hz00⟩:=al2 w [id,pn,te,vo,vl,co,ro,vv,vm] 42 zN 42;have ho0:=ho.below hB;have K:=zx_ id pn te vo co ro vl vv vm log vs mt _ ho0.er ho0.iv ho0.im nl nv nm ns;have K2:=fun W (h:Below w.heap.size w W)=>yk_ id pn te vo co ro vl vv vm log vs mt W (ho.below h).er (ho.below h).iv (ho.below h).im ho.nns.1 ho.nns.2.1 ho.nns.2.2 nl nv nm;have HG:zm_ id pn te vo co ro log vs mt=true→0≤id∧id<pn∧(pn:Int)≤7∧0≤te∧log.length≤60:=fun h=>yH_ h;have HM:zm_ id pn te vo co ro log vs mt=true→¬ro=2→mt= []:=fun h h2=>pm_ h h2;generalize zm_ id pn te vo co ro log vs mt=g at*;obtain⟨⟨la,lc,rfl⟩,⟨va,vc,rfl⟩,ma,mc,rfl⟩:=ho.shapes;clear ns ho0 ho;rcases xn_ g ro te with⟨_,rfl,h1,h2⟩ | ⟨h,_⟩;rotate_left
 ·rw [he] at h;cases h
 obtain⟨i1,i2,hp7,i3,i4⟩:=HG rfl;obtain rfl:=HM rfl h1;clear he HG HM nm;simp only [List.length_nil] at*;go_enter Tryz.func91,Tryz.ntmps91;go_wp2_with fail;rw [←hW0];clear hW0;refine K.mono ?_;rintro e w1 ⟨rfl,hb⟩;replace hB:=za_ hB hb;replace Y:=Y.below hb;replace X:=X.below hb;have hz1:=hb.size;clear K hb;obtain⟨hxl,x0,x1,x2,x3,x4,x5,x6,x7,x8⟩:=X.e9;have h1b:(ro==2)=false:=by simp [h1]
 have h2b:(te==1000)=false:=by simp;omega
 go_wp2_with fail;refine (K2 _ hB).mono ?_;rintro e w2 ⟨u1,u2,u3,rfl,O,hb⟩;replace hB:=za_ hB hb;replace Y:=Y.below hb;replace X:=X.below hb;have hz2:=hb.size;clear K2 hb hxl x0 x1 x2 x3 x4 x5 x6 x7 x8;have gl:=zg_ O.l;have gm:=zg_ O.m;have lm:=zh_ O.m;obtain⟨⟨ua,uc,rfl⟩,⟨pa,pc,rfl⟩,qa,qc,rfl⟩:=O.shapes;simp only [List.length_nil] at*;have ol:=O.l;have om:=O.m;clear O;obtain⟨hxl,x0,x1,x2,x3,x4,x5,x6,x7,x8⟩:=X.e9;obtain⟨e0,e1,e2,e3,e4,e5,e6,e7,e8⟩:=X.f9;go_upto_region 4 with fail;obtain⟨W3,hW3,hC,put_⟩:=zj_ w2 X id pn te vo (.slice ua log.length uc) co ro (.slice pa vs.length pc) (.slice qa 0 qc);clear X;have X:=put_;clear put_;replace Y:=hC.box Y (by omega);replace ol:=hC.owns ol (fun b hb hh=>by have:=gl b hb;have hh:b=w.heap.size:=hh;omega);replace om:=hC.owns om (fun b hb hh=>by have:=gm b hb;have hh:b=w.heap.size:=hh;omega);replace hB:=hB.trans (hC.b1 hB.size (by omega));have hz4:w2.heap.size≤W3.heap.size:=hC.size;unfold put9 at hW3;rw [←hW3];clear hW3 hC hxl x0 x1 x2 x3 x4 x5 x6 x7 x8 e0 e1 e2 e3 e4 e5 e6 e7 e8;obtain⟨hxl,x0,x1,x2,x3,x4,x5,x6,x7,x8⟩:=X.e9;obtain⟨e0,e1,e2,e3,e4,e5,e6,e7,e8⟩:=X.f9;go_upto_region 7 with fail;obtain⟨W4,hW4⟩:∃W,W=((W3.setCell ⟨w.heap.size,2,none⟩ (.int .i64 (te+1))).setCell ⟨w.heap.size,3,none⟩ (.int .i64 id)).setCell ⟨w.heap.size,6,none⟩ (.int .i64 1):=⟨_,rfl⟩;have hC:Chg (fun k=>k=w.heap.size) W3 W4:=by rw [hW4];exact Chg.setCell (S:=fun k=>k=w.heap.size) (Chg.setCell (S:=fun k=>k=w.heap.size) (Chg.setCell (S:=fun k=>k=w.heap.size) (Chg.refl _ _) rfl _) rfl _) rfl _
 replace X:Box W4 w.heap.size [id,pn,(te+1:Int),id,.slice ua log.length uc,co,(1:Int),.slice pa vs.length pc,.slice qa 0 qc]:=by rw [hW4];exact ((X.set 2 _ (by simp)).set 3 _ (by simp)).set 6 _ (by simp)
 replace Y:=hC.box Y (by omega);replace ol:=hC.owns ol (fun b hb hh=>by have:=gl b hb;have hh:b=w.heap.size:=hh;omega);replace om:=hC.owns om (fun b hb hh=>by have:=gm b hb;have hh:b=w.heap.size:=hh;omega);replace hB:=hB.trans (hC.b1 hB.size (by omega));have hz5:W3.heap.size≤W4.heap.size:=hC.size;rw [←hW4];clear hW4 hC hxl x0 x1 x2 x3 x4 x5 x6 x7 x8 e0 e1 e2 e3 e4 e5 e6 e7 e8;obtain⟨hxl,x0,x1,x2,x3,x4,x5,x6,x7,x8⟩:=X.e9;have e7:=X.2.2 7;go_upto_region 8 with fail;obtain⟨W6,hW6⟩:∃W,W=W4.setCell ⟨w.heap.size,7,none⟩ (.slice (some ⟨W4.heap.size,0,none⟩) 1 1):=⟨_,rfl⟩;have hC:Chg (fun k=>k=w.heap.size) W4 W6:=by rw [hW6];exact Chg.setCell (S:=fun k=>k=w.heap.size) (Chg.refl _ _) rfl _
 replace X:Box W6 w.heap.size [id,pn,(te+1:Int),id,.slice ua log.length uc,co,(1:Int),.slice (some ⟨W4.heap.size,0,none⟩) 1 1,.slice qa 0 qc]:=by rw [hW6];exact X.set 7 _ (by simp)
 replace Y:=hC.box Y (by omega);replace ol:=hC.owns ol (fun b hb hh=>by have:=gl b hb;have hh:b=w.heap.size:=hh;omega);replace om:=hC.owns om (fun b hb hh=>by have:=gm b hb;have hh:b=w.heap.size:=hh;omega);replace hB:=hB.trans (hC.b1 hB.size (by omega));have hz6:=hC.size;have hs6:W6.heap.size=W4.heap.size:=by rw [hW6];simp
 rw [←hW6];clear hW6;have ov:(W6.alloc (.cells #[id] 3)).ownsRow w1.heap.size 3 1 (.slice (some ⟨W4.heap.size,0,none⟩) 1 1) 1 ([id].map (.int .i64)):=by
  rw [←hs6];exact World.ownsRow_lit W6 #[id] 1 (by omega) (by simp [maxLen]) (by simp)
 have hne:∀g,(.slice (some ⟨W4.heap.size,0,none⟩) 1 1:Value).ownBlock=some g→(.slice qa 0 qc:Value).ownBlock≠some g:=fun g hg e=>by
  have:=lm g e;simp [Value.ownBlock] at hg;omega
 have BA:=zb_ W6 (.cells #[id] 3);replace X:=X.below BA;replace Y:=Y.below BA;replace ol:=zd_ ol BA;replace om:=zd_ om BA;replace hB:=za_ hB BA;have hz7:=BA.size;obtain⟨W5,hW5⟩:∃W,W=W6.alloc (.cells #[id] 3):=⟨_,rfl⟩;rw [←hW5] at X Y ol om ov hB hz7 ⊢;clear hW5 hC BA hxl x0 x1 x2 x3 x4 x5 x6 x7 x8 e7;have O:OwnN W5 w1.heap.size (.slice ua log.length uc) (.slice (some ⟨W4.heap.size,0,none⟩) 1 1) (.slice qa 0 qc) log [id] []:=⟨ol,ov,om,hne⟩;have KT:=fun W (h:Below W5.heap.size W5 W)=>xs_ id pn (te+1) id co 1 _ _ _ log [id] [] log.length W (O.below h).er (O.below h).iv (O.below h).im (Nat.le_refl _) nl;obtain⟨tb,HTB⟩:∃tb:Int,Hid (tmAt log log.length=tb):=⟨tmAt log log.length,rfl⟩;rw [HTB.out] at KT;have hpb:((pn:Int)==1)=false:=by simp;omega
 have hz8:w.heap.size+1+1≤W5.heap.size:=by omega
 have hz9:w.heap.size+1+1≤w1.heap.size:=by omega
 clear hz00 hz1 hz2 hz4 hz5 hz6 hz7 hs6 ol om ov hne gl gm lm h1 h2 h1b h2b;generalize W4.heap.size=gb at*;obtain⟨hxl,x0,x1,x2,x3,x4,x5,x6,x7,x8⟩:=X.e9;go_wp2;clear hxl x0 x1 x2 x3 x4 x5 x6 x7 x8 hpb
 go_loopw [5,6] (fun z i wr=>∃k:Nat,k≤pn∧i= .int .i64 k∧wr.ownsRow W5.heap.size 80 9 z (zC_ id (te+1) log.length tb k).length (zW_ (zC_ id (te+1) log.length tb k))∧Below W5.heap.size W5 wr) (fun _ i _=>pn-(intOf i).toNat)
 case atStart=>exact⟨0,Nat.zero_le _,rfl,World.ownsRow_nil _ _ _ _,Below.refl _ _⟩
 case round=>
  obtain⟨k,hk,rfl,hown,hb⟩:=hrel;have Xr:=X.below hb;have hzr:=hb.size;clear X;obtain⟨za,zc,rfl⟩:=ze_ hown;obtain⟨xl,x0,x1,x2,x3,x4,x5,x6,x7,x8⟩:=Xr.e9;by_cases hlt:k<pn
  ·by_cases hid:(k:Int)=id
   ·have HA:Hid (zC_ id (te+1) log.length tb (k+1)=zC_ id (te+1) log.length tb k):=by show _=_;simp [zC_,hid]
    have hid2:((k:Int) !=id)=false:=by simp [hid]
    have HO:Hid (wr.ownsRow W5.heap.size 80 9 (.slice za (zC_ id (te+1) log.length tb k).length zc) (zC_ id (te+1) log.length tb k).length (zW_ (zC_ id (te+1) log.length tb k))):=hown;have hal:=xp_ id (te+1) log.length tb k;generalize zC_ id (te+1) log.length tb k=az at*;clear hown KT O Y hB;go_wp2;go_roundw
    case rel=>exact⟨k+1,by omega,by go_num,by rw [HA.out];exact HO.out,hb⟩
    case measure=>simp [intOf];omega
   ·have HA:Hid (zC_ id (te+1) log.length tb (k+1)=zC_ id (te+1) log.length tb k++ [⟨1,id,k,te+1,log.length,tb,0,false⟩]):=by show _=_;simp [zC_,hid]
    have hid2:((k:Int) !=id)=true:=by simp [hid]
    have hal:=xp_ id (te+1) log.length tb k;generalize zC_ id (te+1) log.length tb k=az at*;clear O Y hB;go_wp2_with fail;have hD:Below wr.heap.size wr wr.drew:=(Below.refl _ _).drew;replace Xr:=Xr.below hD;replace hb:=za_ hb hD;replace hown:=zd_ hown hD;have hzc:=hD.size;clear hD xl x0 x1 x2 x3 x4 x5 x6 x7 x8;refine wp_region_held_drew (S:=fun w'=>Box w' w.heap.size [id,pn,(te+1:Int),id,.slice ua log.length uc,co,(1:Int),.slice (some ⟨gb,0,none⟩) 1 1,.slice qa 0 qc]) (by kernel_rfl) Xr (fun zc_=> ?_);obtain⟨cur,hcur⟩:∃cur,cur=wr.drew:=⟨_,rfl⟩;rw [←hcur] at Xr hb hown hzc ⊢;clear hcur;refine tkH 0 (.slice za az.length zc) rfl ?_ ?_
    ·intro wx hSw;clear hSw zc_;go_simp
    simp only [Act.put,sA_,sB_,sC_];refine tkH 1 (.pointer (some ⟨w.heap.size,0,none⟩)) rfl ?_ ?_
    ·intro wx hSw;clear hSw zc_;go_simp
    simp only [Act.put,sA_,sB_,sC_];refine tkH 2 (.int .i64 id) rfl ?_ ?_
    ·intro wx hSw;have e:=hSw.2.1 0 _ rfl;clear zc_;go_simp
    simp only [Act.put,sA_,sB_,sC_];refine tkH 3 (.int .i64 k) rfl ?_ ?_
    ·intro wx hSw;clear hSw zc_;go_simp
    simp only [Act.put,sA_,sB_,sC_];refine tkH 4 (.pointer (some ⟨w.heap.size,2,none⟩)) rfl ?_ ?_
    ·intro wx hSw;clear hSw zc_;go_simp
    simp only [Act.put,sA_,sB_,sC_];refine tkH 5 (.int .i64 (te+1)) rfl ?_ ?_
    ·intro wx hSw;have e:=hSw.2.1 2 _ rfl;clear zc_;go_simp
    simp only [Act.put,sA_,sB_,sC_];refine tkH 6 (.pointer (some ⟨w.heap.size,4,none⟩)) rfl ?_ ?_
    ·intro wx hSw;clear hSw zc_;go_simp
    simp only [Act.put,sA_,sB_,sC_];refine tkH 7 (.slice ua log.length uc) rfl ?_ ?_
    ·intro wx hSw;have e:=hSw.2.1 4 _ rfl;clear zc_;go_simp
    simp only [Act.put,sA_,sB_,sC_];refine tkH 8 (.int .i64 log.length) rfl ?_ ?_
    ·intro wx hSw;clear hSw zc_;go_simp
    simp only [Act.put,sA_,sB_,sC_];refine tkH 9 (.agg #[id,pn,(te+1:Int),id,.slice ua log.length uc,co,(1:Int),.slice (some ⟨gb,0,none⟩) 1 1,.slice qa 0 qc]) rfl ?_ ?_
    ·intro wx hSw;have e0:=hSw.2.1 0 _ rfl;have e1:=hSw.2.1 1 _ rfl;have e2:=hSw.2.1 2 _ rfl;have e3:=hSw.2.1 3 _ rfl;have e4:=hSw.2.1 4 _ rfl;have e5:=hSw.2.1 5 _ rfl;have e6:=hSw.2.1 6 _ rfl;have e7:=hSw.2.1 7 _ rfl;have e8:=hSw.2.1 8 _ rfl;clear zc_;go_simp
    simp only [Act.put,sA_,sB_,sC_];refine tkH 10 (.pointer (some ⟨w.heap.size,4,none⟩)) rfl ?_ ?_
    ·intro wx hSw;clear hSw zc_;go_simp
    simp only [Act.put,sA_,sB_,sC_];refine tkH 11 (.slice ua log.length uc) rfl ?_ ?_
    ·intro wx hSw;have e:=hSw.2.1 4 _ rfl;clear zc_;go_simp
    simp only [Act.put,sA_,sB_,sC_];refine tkH 12 (.int .i64 log.length) rfl ?_ ?_
    ·intro wx hSw;clear hSw zc_;go_simp
    simp only [Act.put,sA_,sB_,sC_];refine rd1 13 rfl (fun K hK=> ?_);clear zc_;go_simp;refine (KT _ hb).mono ?_;rintro e nw ⟨rfl,hb1⟩;replace Xr:=Xr.below hb1;replace hb:=za_ hb hb1;replace hown:=zd_ hown hb1;replace hzc:=Nat.le_trans hzc hb1.size;clear hb1 KT;refine hK.out _ _ Xr (fun zc_=> ?_);clear hK K;generalize nw=cur at*;refine tkH 14 (.agg #[(1:Int),id,k,(te+1:Int),log.length,tb,(),(0:Int),false]) rfl ?_ ?_
    ·intro wx hSw;clear hSw zc_;go_simp
    simp only [Act.put,sA_,sB_,sC_];refine rd1 15 rfl (fun K hK=> ?_);clear zc_;have BA:=zb_ cur (.cells #[(1:Int),id,k,(te+1:Int),log.length,tb,(),(0:Int),false] 80);have MB:=Box.new cur #[(1:Int),id,k,(te+1:Int),log.length,tb,(),(0:Int),false] 80;have hzq:=hb.size;replace Xr:=Xr.below BA;replace hb:=za_ hb BA;replace hown:=zd_ hown BA;replace hzc:=Nat.le_trans hzc BA.size;clear BA;go_simp;refine hK.out _ _ Xr (fun zc_=> ?_);clear hK K;generalize hms:cur.heap.size=ms at*;generalize cur.alloc (.cells #[(1:Int),id,k,(te+1:Int),log.length,tb,(),(0:Int),false] 80)=cur at*;clear hms;refine rd1 16 rfl (fun K hK=> ?_);clear zc_;refine uP_ _ _ _ rfl rfl W5.heap.size _ az.length az rfl hown ms ⟨1,id,k,te+1,log.length,tb,0,false⟩ rfl MB (by omega) (by omega) ?_;intro u nw hown2 hgr;have gl:=zg_ hown;have hb4:Below W5.heap.size cur nw:=(Below.refl _ _).grown hgr (by omega) (fun k hk=>gl k hk);replace Xr:=Xr.under hb4 (by omega);replace hb:=hb.trans hb4;obtain⟨ua',uc',rfl⟩:=ze_ hown2;clear hown hgr gl hb4 MB;refine hK.out _ _ Xr (fun zc_=> ?_);clear hK K;have hown:=hown2;clear hown2;generalize nw=cur at*;refine tkH 17 (.slice ua' (az.length+1) uc') rfl ?_ ?_
    ·intro wx hSw;clear hSw zc_;go_simp
    simp only [Act.put,sA_,sB_,sC_];clear zc_ Xr;refine wpAnyH_done (by kernel_rfl) ?_ _;go_wp2;go_roundw
    case rel=>exact⟨k+1,by omega,by go_num,by rw [HA.out,List.length_append];exact hown,hb⟩
    case measure=>simp [intOf];omega
  ·obtain rfl:k=pn:=by omega
   have hBr:=za_ hB hb;have Yr:=Y.below hb;have Or':=O.below hb;clear KT hB hb Y O;have hC:=zk_ wr (w.heap.size+1) id k (.int .i64 (te+1)) id (.slice ua log.length uc) co (.int .i64 1) (.slice (some ⟨gb,0,none⟩) 1 1) (.slice qa 0 qc);have Z:=zl_ Yr id k (.int .i64 (te+1)) id (.slice ua log.length uc) co (.int .i64 1) (.slice (some ⟨gb,0,none⟩) 1 1) (.slice qa 0 qc);have gO:=zg_ hown;have o9:=hC.owns (zf_ hown (show w.heap.size≤W5.heap.size from by omega)) (fun b hb hh=>by have:=gO b hb;have hh:b=w.heap.size+1:=hh;omega);have lO:=fun b hb=>(Or'.lt b hb).1;have O8:=(Or'.chg hC (fun b hb hh=>by have:=lO b hb;have hh:b=w.heap.size+1:=hh;omega)).mono (show w.heap.size≤w1.heap.size from by omega);have hBE:=hBr.trans (hC.b1 hBr.size (by omega));obtain⟨ql,q0,q1,q2,q3,q4,q5,q6,q7,q8⟩:=Yr.e9;obtain⟨k0,k1,k2,k3,k4,k5,k6,k7,k8⟩:=Yr.f9;clear hC hown Or' hBr Yr gO lO;obtain⟨hzl,t0,t1,t2,t3,t4,t5,t6,t7,t8⟩:=Z.e9;clear Z;unfold put9 at*;go_wp2;exact bodyPost_ret (v:= .tuple #[.agg #[id,k,(te+1:Int),id,.slice ua log.length uc,co,(1:Int),.slice (some ⟨gb,0,none⟩) 1 1,.slice qa 0 qc],.slice za (zC_ id (te+1) log.length tb k).length zc,true]) (by simp [results,Tryz.results91,go_sem,t0,t1,t2,t3,t4,t5,t6,t7,t8]) rfl ⟨_,_,_,_,rfl,O8,by rw [HTB.out];exact o9,hBE⟩
set_option maxHeartbeats 200000
theorem qH_ (x:Nv) (d:ByteArray) (c:Nat) (w:World) (hx:PN w c x) (hg:Gd x.n) (hd:d.size≤1048576) (ok:Bool) (hok:ok=prOk (gN x.n) x.n.ro x.n.log.length d):
  Calls Tryz.prog 92 #[.agg x,d] w fun e w'=>NodeI w w' ok (prX x.n d) e∧Below w.heap.size w w':=by
 have hb:=hg.bnd;refine (tu_ x.n.id x.n.pe x.n.te x.n.vo x.n.co x.n.ro _ _ _ x.n.log x.n.vs x.n.mt d c w hx hb.l hb.v hb.m hb.s hd).mono ?_;rintro e w' ⟨ul,uv,um,rfl,ho,hB⟩;rw [show prOk (zm_ x.n.id x.n.pe x.n.te x.n.vo x.n.co x.n.ro x.n.log x.n.vs x.n.mt) x.n.ro x.n.log.length d=ok from hok.symm] at ho ⊢
 cases ok with
 | false=>
  obtain⟨y,hy,rfl,rfl,rfl,_⟩:=xU_ Nd.zero ho;exact⟨.inr ⟨rfl,y,_,by rw [hy];rfl⟩,hB⟩
 | true=>
  obtain⟨y,hy,rfl,rfl,rfl,hp⟩:=xU_ (prX x.n d) ho;exact⟨.inl ⟨rfl,y,_,by rw [hy];rfl,hy,hp⟩,hB⟩
theorem rS_ (x:Nv) (c:Nat) (w:World) (hx:PN w c x) (hg:Gd x.n) (ok:Bool) (hok:ok=gN x.n):
  Calls Tryz.prog 93 #[.agg x] w fun e w'=>NodeB w w' ok (crX x.n) e∧Below w.heap.size w w':=by
 have hb:=hg.bnd;refine (uV_ x.n.id x.n.pe x.n.te x.n.vo x.n.co x.n.ro _ _ _ x.n.log x.n.vs x.n.mt c w hx hb.l hb.v hb.m hb.s).mono ?_;rintro e w' ⟨ul,uv,um,rfl,ho,hB⟩;rw [show zm_ x.n.id x.n.pe x.n.te x.n.vo x.n.co x.n.ro x.n.log x.n.vs x.n.mt=ok from hok.symm] at ho ⊢
 cases ok with
 | false=>
  obtain⟨y,hy,rfl,rfl,rfl,_⟩:=xU_ Nd.zero ho;exact⟨.inr ⟨rfl,y,by rw [hy];rfl⟩,hB⟩
 | true=>
  obtain⟨y,hy,rfl,rfl,rfl,hp⟩:=xU_ (crX x.n) ho;exact⟨.inl ⟨rfl,y,by rw [hy];rfl,hy,hp⟩,hB⟩
theorem specAFC (x:Nv) (peer many:Int) (c:Nat) (w:World) (hx:PN w c x) (hg:Gd x.n) (ok:Bool) (hok:ok=afOk (gN x.n) x.n.id x.n.pe x.n.ro peer many):
  Calls Tryz.prog 94 #[.agg x,peer,many] w fun e w'=>MsgA w w' ok (afX x.n peer many) e∧Below w.heap.size w w':=by
 have hb:=hg.bnd;refine (rT_ x.n.id x.n.pe x.n.te x.n.vo x.n.co x.n.ro _ _ _ x.n.log x.n.vs x.n.mt peer many c w hx hb.l hb.v hb.m hb.s).mono ?_;rintro e w' ⟨ue,rfl,ho,hB⟩;rw [show afOk (zm_ x.n.id x.n.pe x.n.te x.n.vo x.n.co x.n.ro x.n.log x.n.vs x.n.mt) x.n.id x.n.pe x.n.ro peer many=ok from hok.symm] at ho ⊢
 cases ok with
 | false=>
  obtain⟨y,hy,rfl,_⟩:=mv_of Ms.zero ho;exact⟨.inr ⟨rfl,y,by rw [hy];rfl⟩,hB⟩
 | true=>
  obtain⟨y,hy,rfl,hp⟩:=mv_of (afX x.n peer many) ho;exact⟨.inl ⟨rfl,y,by rw [hy];rfl,hy,hp⟩,hB⟩
theorem qG_ (x:Nv) (c:Nat) (w:World) (hx:PN w c x) (hg:Gd x.n) (ok:Bool) (hok:ok=tmOk (gN x.n) x.n.ro x.n.te):
  Calls Tryz.prog 91 #[.agg x] w fun e w'=>qv_ w w' ok (tmX x.n) (tmA x.n) e∧Below w.heap.size w w':=by
 have hb:=hg.bnd
 cases ok with
 | false=>
  refine (rg_ x.n.id x.n.pe x.n.te x.n.vo x.n.co x.n.ro _ _ _ x.n.log x.n.vs x.n.mt c w hx hb.l hb.v hb.m hb.s hok.symm).mono ?_;rintro e w' ⟨ul,uv,um,rfl,ho,hB⟩;obtain⟨y,hy,rfl,rfl,rfl,_⟩:=xU_ Nd.zero ho;exact⟨.inr ⟨rfl,y,by rw [hy];rfl⟩,hB⟩
 | true=>
  by_cases hp:2≤x.n.pe
  ·refine (uS_ x.n.id x.n.pe x.n.te x.n.vo x.n.co x.n.ro _ _ _ x.n.log x.n.vs x.n.mt c w hx hb.l hb.v hb.m hb.s hok.symm hp).mono ?_;rintro e w' ⟨ul,uv,um,uq,rfl,ho,hq,hB⟩;rw [←rH_,←uR_] at hq;have e1:tmX x.n=⟨x.n.id,x.n.pe,x.n.te+1,x.n.id,x.n.co,1,x.n.log,[x.n.id],[]⟩:=by
    unfold tmX tmN;rw [if_neg (by omega)]
   obtain⟨y,hy,rfl,rfl,rfl,hpy⟩:=xU_ (tmX x.n) (by rw [e1];exact ho);have hl:(tmA x.n).length≤100:=by
    have:=hg.p7;have:=xp_ x.n.id (x.n.te+1) x.n.log.length (tmAt x.n.log x.n.log.length) x.n.pe.toNat;rw [uR_];omega
   have q:=ve_ (w:=w) y hy hpy (qD_ x.n) hl hq;refine⟨?_,hB⟩;have f1:y.n.id=x.n.id∧y.n.pe=x.n.pe∧y.n.te=x.n.te+1∧y.n.vo=x.n.id∧y.n.co=x.n.co∧y.n.ro=1:=by rw [hy,e1];exact⟨rfl,rfl,rfl,rfl,rfl,rfl⟩
   rw [f1.1,f1.2.1,f1.2.2.1,f1.2.2.2.1,f1.2.2.2.2.1,f1.2.2.2.2.2] at q;exact q
  ·have hi0:=hg.i0;have hip:=hg.ip;have hp1:=hg.p1;have i0:x.n.id=0:=by omega
   have p1:x.n.pe=1:=by omega
   have hx':OwnN w c (.slice x.la x.n.log.length x.lc) (.slice x.va x.n.vs.length x.vc) (.slice x.ma x.n.mt.length x.mc) x.n.log x.n.vs x.n.mt:=hx;have hk:=hok.symm;unfold gN at hk;rw [i0,p1] at hk;have K:=tt_ x.n.te x.n.vo x.n.co x.n.ro _ _ _ x.n.log x.n.vs x.n.mt c w hx' hb.l hb.v hb.m hb.s hk;rw [i0,p1];refine K.mono ?_;rintro e w' ⟨ul,um,rfl,ho,hB⟩;have e1:tmX x.n=⟨0,1,x.n.te+1,0,x.n.co,2,x.n.log,[],[(x.n.log.length:Int)]⟩:=by
    unfold tmX tmN;rw [if_pos (by omega),i0,p1]
   have e2:tmA x.n= []:=by unfold tmA;rw [i0,p1];rfl
   obtain⟨y,hy,rfl,hvy,rfl,hpy⟩:=xU_ (tmX x.n) (by rw [e1];exact ho);have q:=ve_ (w:=w) (w':=w') (A:=tmA x.n) (uq:= .slice none 0 0) y hy hpy (qD_ x.n) (by rw [e2];simp) (by rw [e2];exact World.ownsRow_nil _ _ _ _);refine⟨?_,hB⟩;have f1:y.n.id=0∧y.n.pe=1∧y.n.te=x.n.te+1∧y.n.vo=0∧y.n.co=x.n.co∧y.n.ro=2:=by rw [hy,e1];exact⟨rfl,rfl,rfl,rfl,rfl,rfl⟩
   rw [f1.1,f1.2.1,f1.2.2.1,f1.2.2.2.1,f1.2.2.2.2.1,f1.2.2.2.2.2,←hvy] at q;exact q
end Go.Proofs.YtapfhhmimkkhnaaGreat
