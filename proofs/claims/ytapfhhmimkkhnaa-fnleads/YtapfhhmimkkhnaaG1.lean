/-
  ProposeNode: both sides.
-/
import Derived.Test.YtapfhhmimkkhnaaK1ToKC3
import Derived.Test.YtapfhhmimkkhnaaA4ToU1
import Derived.Deep.RegionHeld3
namespace Go.Proofs.Ytapfhhmimkkhnaa
open Go.RowKit Go.Maps
set_option maxHeartbeats 8000000
set_option linter.unusedVariables false
set_option maxRecDepth 100000
def prOk (g:Bool) (ro:Int) (n:Nat) (d:ByteArray):Bool:=g&&(decide (ro=2)&&(decide ((n:Int)<60)&&decide ((d.size:Int)≤100)))
def prN (ok:Bool) (id pe te vo co:Int) (log:List En) (vs mt:List Int) (d:ByteArray):Nd:=
 if ok then⟨id,pe,te,vo,zr_ te pe co (log++ [⟨te,d⟩]) (mt.set id.toNat ((log.length:Int)+1)) (log.length+1),2,log++ [⟨te,d⟩],vs,mt.set id.toNat ((log.length:Int)+1)⟩ else Nd.zero
def prI (ok:Bool) (n:Nat):Int:=if ok then (n:Int)+1 else 0
theorem goodN_lead {id pe te vo co:Int} {log:List En} {vs mt:List Int} (h:zk_ id pe te vo co 2 log vs mt=true):0≤id∧id<pe∧(mt.length:Int)=pe:=by
 rw [zK_,goodRo_2] at h;simp [inB,goodMt] at h;omega
theorem len_snoc (l:List En) (e:En):(l++ [e]).length=l.length+1:=by simp
theorem goodN_60 {id pe te vo co ro:Int} {log:List En} {vs mt:List Int} (h:zk_ id pe te vo co ro log vs mt=true):log.length≤60:=by
 rw [zK_] at h;simp at h;omega
theorem implProp_any (id pe te vo co ro:Int) (vl vv vm:Value) (log:List En) (vs mt:List Int) (d:ByteArray) (base:Nat) (w:World) (ho:OwnN w base vl vv vm log vs mt) (nl:log.length≤1048576) (nv:vs.length≤1048576) (nm:mt.length≤1048576) (ns:∀i (h:i<log.length),log[i].d.size≤1048576) (nd:d.size≤1048576):
  Calls Try.prog 11 #[.agg #[id,pe,te,vo,vl,co,ro,vv,vm],d] w fun e w'=>∃ul uv um,e= .returned (.tuple #[.agg #[.int .i64 (prN (prOk (zk_ id pe te vo co ro log vs mt) ro log.length d) id pe te vo co log vs mt d).id,.int .i64 (prN (prOk (zk_ id pe te vo co ro log vs mt) ro log.length d) id pe te vo co log vs mt d).pe,.int .i64 (prN (prOk (zk_ id pe te vo co ro log vs mt) ro log.length d) id pe te vo co log vs mt d).te,.int .i64 (prN (prOk (zk_ id pe te vo co ro log vs mt) ro log.length d) id pe te vo co log vs mt d).vo,ul,.int .i64 (prN (prOk (zk_ id pe te vo co ro log vs mt) ro log.length d) id pe te vo co log vs mt d).co,.int .i64 (prN (prOk (zk_ id pe te vo co ro log vs mt) ro log.length d) id pe te vo co log vs mt d).ro,uv,um],(prI (prOk (zk_ id pe te vo co ro log vs mt) ro log.length d) log.length:Int),.bool (prOk (zk_ id pe te vo co ro log vs mt) ro log.length d)])∧OwnN w' w.heap.size ul uv um (prN (prOk (zk_ id pe te vo co ro log vs mt) ro log.length d) id pe te vo co log vs mt d).log (prN (prOk (zk_ id pe te vo co ro log vs mt) ro log.length d) id pe te vo co log vs mt d).vs (prN (prOk (zk_ id pe te vo co ro log vs mt) ro log.length d) id pe te vo co log vs mt d).mt∧Below w.heap.size w w':=by
 obtain⟨W0,hW0,hB,X,Y,hz00⟩:=al2 w [id,pe,te,vo,vl,co,ro,vv,vm] 26 zN 26;have ho0:=ho.below hB;have K:=implGoodN_any id pe te vo co ro vl vv vm log vs mt _ ho0.er ho0.iv ho0.im nl nv nm ns;have K2:=fun W (h:Below w.heap.size w W)=>copyNode_any id pe te vo co ro vl vv vm log vs mt W (ho.below h).er (ho.below h).iv (ho.below h).im ho.nns.1 ho.nns.2.1 ho.nns.2.2 nl nv nm;have HG:zk_ id pe te vo co ro log vs mt=true→ro=2→0≤id∧id<pe∧(mt.length:Int)=pe:=fun h h2=>by rw [h2] at h;exact goodN_lead h
 have HC:zk_ id pe te vo co ro log vs mt=true→0≤co∧co≤(log.length:Int):=goodN_co;generalize zk_ id pe te vo co ro log vs mt=g at*;obtain⟨⟨la,lc,rfl⟩,⟨va,vc,rfl⟩,ma,mc,rfl⟩:=ho.shapes;clear ns ho0 ho;have hok:(prOk g ro log.length d=true∧g=true∧ro=2∧log.length<60∧d.size≤100)∨(prOk g ro log.length d=false∧(g=false∨(g=true∧(¬ro=2∨(ro=2∧(60≤log.length∨(log.length<60∧100<d.size))))))):=by
  unfold prOk
  cases g
  ·exact .inr ⟨rfl,.inl rfl⟩
  ·by_cases h1:ro=2
   ·by_cases h2:log.length<60
    ·by_cases h3:d.size≤100
     ·exact .inl ⟨by simp [h1];omega,rfl,h1,h2,h3⟩
     ·exact .inr ⟨by simp [h1];omega,.inr ⟨rfl,.inr ⟨h1,.inr ⟨h2,by omega⟩⟩⟩⟩
    ·exact .inr ⟨by simp [h1];omega,.inr ⟨rfl,.inr ⟨h1,.inl (by omega)⟩⟩⟩
   ·exact .inr ⟨by simp [h1],.inr ⟨rfl,.inl h1⟩⟩
 rcases hok with⟨he,rfl,rfl,hlen,hd⟩ | ⟨he,hcs⟩;rotate_left
 ·rw [he];show Calls Try.prog 11 _ w fun e w'=>∃ul uv um,e= .returned (.tuple #[.agg #[(0:Int),(0:Int),(0:Int),(0:Int),ul,(0:Int),(0:Int),uv,um],(0:Int),false])∧OwnN w' w.heap.size ul uv um [] [] []∧Below w.heap.size w w';clear he HG HC K2;go_enter Try.func11,Try.ntmps11;go_wp2_with fail;rw [←hW0];clear hW0;refine K.mono ?_;rintro e w1 ⟨rfl,hb⟩;replace hB:=za_ hB hb;replace Y:=Y.below hb;replace X:=X.below hb;clear K hb;have hC:=zo_ w1 (w.heap.size+1) (0:Int) (0:Int) (0:Int) (0:Int) () (0:Int) (0:Int) () ();have Z:=zp_ Y (0:Int) (0:Int) (0:Int) (0:Int) () (0:Int) (0:Int) () ();have hBE:=hB.trans (hC.b1 hB.size (by omega));have O:=OwnN.nil (put9 w1 (w.heap.size+1) (.int .i64 0) (.int .i64 0) (.int .i64 0) (.int .i64 0) (.slice none 0 0) (.int .i64 0) (.int .i64 0) (.slice none 0 0) (.slice none 0 0)) w.heap.size;obtain⟨hxl,x0,x1,x2,x3,x4,x5,x6,x7,x8⟩:=X.e9;obtain⟨hyl,y0,y1,y2,y3,y4,y5,y6,y7,y8⟩:=Y.e9;obtain⟨f0,f1,f2,f3,f4,f5,f6,f7,f8⟩:=Y.f9;obtain⟨hzl,t0,t1,t2,t3,t4,t5,t6,t7,t8⟩:=Z.e9;clear Z hC hB Y X;unfold put9 at*;rcases hcs with rfl | ⟨rfl,hcs⟩
  ·go_wp2;exact bodyPost_ret (v:= .tuple #[.agg zN,(0:Int),false]) (by simp [results,Try.results11,go_sem,t0,t1,t2,t3,t4,t5,t6,t7,t8]) rfl ⟨_,_,_,rfl,O,hBE⟩
  rcases hcs with h1 | ⟨rfl,hcs⟩
  ·have h1b:(ro !=2)=true:=by simp [h1]
   go_wp2;exact bodyPost_ret (v:= .tuple #[.agg zN,(0:Int),false]) (by simp [results,Try.results11,go_sem,t0,t1,t2,t3,t4,t5,t6,t7,t8]) rfl ⟨_,_,_,rfl,O,hBE⟩
  rcases hcs with h2 | ⟨h2,h3⟩
  ·have h2b:(60:Int)≤(log.length:Int):=by omega
   go_wp2;exact bodyPost_ret (v:= .tuple #[.agg zN,(0:Int),false]) (by simp [results,Try.results11,go_sem,t0,t1,t2,t3,t4,t5,t6,t7,t8]) rfl ⟨_,_,_,rfl,O,hBE⟩
  ·have h2b:¬(60:Int)≤(log.length:Int):=by omega
   have h3b:(100:Int)<(d.size:Int):=by omega
   go_wp2;exact bodyPost_ret (v:= .tuple #[.agg zN,(0:Int),false]) (by simp [results,Try.results11,go_sem,t0,t1,t2,t3,t4,t5,t6,t7,t8]) rfl ⟨_,_,_,rfl,O,hBE⟩
 obtain⟨i0,i1,hmp⟩:=HG rfl rfl;obtain⟨hc0,hc1⟩:=HC rfl;rw [he];obtain⟨i,rfl⟩:=Int.eq_ofNat_of_zero_le i0;have hil:i<mt.length:=by omega
 show Calls Try.prog 11 _ w fun e w'=>∃ul uv um,e= .returned (.tuple #[.agg #[i,pe,te,vo,ul,(zr_ te pe co (log++ [⟨te,d⟩]) (mt.set i ((log.length:Int)+1)) (log.length+1):Int),(2:Int),uv,um],((log.length:Int)+1:Int),true])∧OwnN w' w.heap.size ul uv um (log++ [⟨te,d⟩]) vs (mt.set i ((log.length:Int)+1))∧Below w.heap.size w w';clear he HG HC hmp;go_enter Try.func11,Try.ntmps11;go_wp2_with fail;rw [←hW0];clear hW0;refine K.mono ?_;rintro e w1 ⟨rfl,hb⟩;replace hB:=za_ hB hb;replace Y:=Y.below hb;replace X:=X.below hb;have hz1:=hb.size;clear K hb;obtain⟨hxl,x0,x1,x2,x3,x4,x5,x6,x7,x8⟩:=X.e9;have hlb:¬(60:Int)≤(log.length:Int):=by omega
 have hdb:¬(100:Int)<(d.size:Int):=by omega
 go_wp2_with fail;refine (K2 _ hB).mono ?_;rintro e w2 ⟨u1,u2,u3,rfl,O,hb⟩;replace hB:=za_ hB hb;replace Y:=Y.below hb;replace X:=X.below hb;have hz2:=hb.size;clear K2 hb hxl x0 x1 x2 x3 x4 x5 x6 x7 x8;have gO:=fun b hb=>(O.lt b hb).1;obtain⟨⟨ua,uc,rfl⟩,⟨xa,xc,rfl⟩,_⟩:=O.shapes;obtain⟨g3,yc,rfl⟩:∃g3 yc,u3= .slice (some ⟨g3,0,none⟩) mt.length yc:=by
  rcases O.m.2 with⟨_,h0⟩ | ⟨g,cap,cur,h,_⟩
  ·omega
  ·exact⟨g,cap,h⟩
 obtain⟨hxl,x0,x1,x2,x3,x4,x5,x6,x7,x8⟩:=X.e9;obtain⟨e0,e1,e2,e3,e4,e5,e6,e7,e8⟩:=X.f9;go_upto_region 4 with fail;obtain⟨W2,hW2,hC,X2⟩:=zj_ w2 X i pe te vo (.slice ua log.length uc) co (.int .i64 2) (.slice xa vs.length xc) (.slice (some ⟨g3,0,none⟩) mt.length yc);have Y2:=hC.box Y (by omega);have O2:=O.chg hC (fun b hb hh=>by have:=gO b hb;have hh:b=w.heap.size:=hh;omega);have hB2:=hB.trans (hC.b1 hB.size (by omega));have hzW2:w2.heap.size≤W2.heap.size:=hC.size;unfold put9 at hW2;rw [←hW2];clear hW2 hC X Y O hB hxl x0 x1 x2 x3 x4 x5 x6 x7 x8 e0 e1 e2 e3 e4 e5 e6 e7 e8;obtain⟨hxl,x0,x1,x2,x3,x4,x5,x6,x7,x8⟩:=X2.e9;have f4:=X2.2.2 4;have hBa:=zc_ W2 (.cells #[te,d] 34);have Oa:=O2.below hBa;have hE:ER (W2.alloc (.cells #[te,d] 34)) (.slice (some ⟨W2.heap.size,0,none⟩) 1 1) [⟨te,d⟩]:=by
  refine⟨_,_,rfl,fun _=>⟨W2.heap.size,0,rfl,by simp,fun k hk=> ?_⟩⟩;obtain rfl:k=0:=by simpa using hk
  simp
 go_wp2_with (at_builtin;refine zB_.go ?_);unfold zB_;refine zJ_ _ rfl _ _ rfl rfl w1.heap.size _ log.length log rfl Oa.l _ [⟨te,d⟩] rfl hE (by simp;omega) (by simp;omega) ?_;intro u w4 o4 hgr;simp only [List.length_cons,List.length_nil,Nat.zero_add] at o4;have gl:=ze_ Oa.l;have nlv:=zi_ Oa.l Oa.v (by decide);have nlm:=zi_ Oa.l Oa.m (by decide);have ov:=Oa.v.kept hgr (by
  cases h:(Value.slice xa vs.length xc).ownBlock with
  | none=>exact .inl rfl
  | some b=>exact .inr fun hh=>nlv b hh.symm h)
 have om:=Oa.m.kept hgr (.inr fun hh=>nlm g3 hh.symm rfl);have hb4:Below (w.heap.size+1+1) (W2.alloc (.cells #[te,d] 34)) w4:=(Below.refl _ _).grown hgr (by simp;omega) (fun k hk=>by have:=gl k hk;omega);have X4:=(X2.below hBa).under hb4 (by omega);have Y4:=(Y2.below hBa).under hb4 (by omega);have hB4:=(za_ hB2 hBa).trans (hb4.mono (by omega));have hz4:W2.heap.size+1≤w4.heap.size:=by have:=hb4.size;simpa using this
 have nvm:=Oa.ne;obtain⟨na,nc,rfl⟩:=zf_ o4;have lo4:=ze_ o4;have gv:=ze_ ov;have gm:=ze_ om;clear hBa Oa hE hgr O2 X2 Y2 hB2 gl nlv nlm hb4 hxl x0 x1 x2 x3 x4 x5 x6 x7 x8 f4 gO;obtain⟨hxl,x0,x1,x2,x3,x4,x5,x6,x7,x8⟩:=X4.e9;have f4:=X4.2.2 4;go_upto_region 5 with fail;obtain⟨W4,hW4⟩:∃W4,W4=w4.setCell ⟨w.heap.size,4,none⟩ (.slice na (log.length+1) nc):=⟨_,rfl⟩;have hC:Chg (fun k=>k=w.heap.size) w4 W4:=by rw [hW4];exact Chg.setCell (S:=fun k=>k=w.heap.size) (Chg.refl _ _) rfl _
 have X5:Box W4 w.heap.size [i,pe,te,vo,.slice na (log.length+1) nc,co,(2:Int),.slice xa vs.length xc,.slice (some ⟨g3,0,none⟩) mt.length yc]:=by rw [hW4];exact X4.set 4 _ (by simp)
 have Y5:=hC.box Y4 (by omega);have o5:=hC.owns o4 (fun b hb hh=>by have:=lo4 b hb;have hh:b=w.heap.size:=hh;omega);have ov5:=hC.owns ov (fun b hb hh=>by have:=gv b hb;have hh:b=w.heap.size:=hh;omega);have om5:=hC.owns om (fun b hb hh=>by have:=gm b hb;have hh:b=w.heap.size:=hh;omega);have hB5:=hB4.trans (hC.b1 hB4.size (by omega));rw [←hW4];have hzW4:w4.heap.size≤W4.heap.size:=hC.size;clear hW4 hC X4 Y4 o4 ov om hB4 hxl x0 x1 x2 x3 x4 x5 x6 x7 x8 f4;obtain⟨hxl,x0,x1,x2,x3,x4,x5,x6,x7,x8⟩:=X5.e9;have hg3:=owns_lt om5;obtain⟨ui,hui⟩:∃u,W4.cell? ⟨g3,i,none⟩=some u:=by
  rw [om5.cellAt i (by omega)];exact⟨_,List.getElem?_eq_getElem (by simpa using hil)⟩
 have fi:=om5.frozenAt i;have om6:=(om5.stored i (.int .i64 ((log.length:Int)+1))).1;rw [show (mt.map (Value.int .i64)).set i (.int .i64 ((log.length:Int)+1))=(mt.set i ((log.length:Int)+1)).map (.int .i64) from by rw [List.map_set]] at om6;have nmg:∀b,(.slice na (log.length+1) nc:Value).ownBlock=some b→b≠g3:=fun b h e=>zi_ o5 om5 (by decide) b h (by rw [e];rfl);have nvg:∀b,(.slice xa vs.length xc:Value).ownBlock=some b→b≠g3:=fun b h e=>nvm b h (by rw [e];rfl);have gg3:=gm g3 rfl;go_upto_region 6 with fail;obtain⟨W5,hW5⟩:∃W5,W5=W4.setCell ⟨g3,i,none⟩ (.int .i64 ((log.length:Int)+1)):=⟨_,rfl⟩;have hC:Chg (fun k=>k=g3) W4 W5:=by rw [hW5];exact Chg.setCell (S:=fun k=>k=g3) (Chg.refl _ _) rfl _
 have X6:=hC.box X5 (by omega);have Y6:=hC.box Y5 (by omega);have o6:=hC.owns o5 (fun b hb hh=>nmg b hb hh);have ov6:=hC.owns ov5 (fun b hb hh=>nvg b hb hh);rw [←hW5] at om6 ⊢;have hB6:=hB5.trans (hC.b1 hB5.size (by omega));have hzW5:W4.heap.size≤W5.heap.size:=hC.size;clear hW5 hC X5 Y5 o5 ov5 om5 hB5 hxl x0 x1 x2 x3 x4 x5 x6 x7 x8 fi hui ui;have hml:(mt.set i ((log.length:Int)+1)).length=mt.length:=by simp
 have O6:OwnN W5 w1.heap.size (.slice na (log.length+1) nc) (.slice xa vs.length xc) (.slice (some ⟨g3,0,none⟩) mt.length yc) (log++ [⟨te,d⟩]) vs (mt.set i ((log.length:Int)+1)):=⟨by rw [len_snoc];exact o6,ov6,by rw [hml];exact om6,fun g hg hg'=>nvg g hg (by simpa [Value.ownBlock] using hg'.symm)⟩;have gO6:=fun b hb=>(O6.lt b hb).1;have KM:=fun W (h:Below W5.heap.size W5 W)=>committing_any i pe te vo co _ _ _ (log++ [⟨te,d⟩]) vs (mt.set i ((log.length:Int)+1)) W (O6.below h).er (O6.below h).iv (O6.below h).im (by rw [len_snoc];omega) (by rw [hml];omega) hc0;rw [len_snoc] at KM;obtain⟨cm,HCM⟩:∃cm:Int,Hid (zr_ te pe co (log++ [(⟨te,d⟩:En)]) (mt.set i ((log.length:Int)+1)) (log.length+1)=cm):=⟨zr_ te pe co (log++ [(⟨te,d⟩:En)]) (mt.set i ((log.length:Int)+1)) (log.length+1),rfl⟩;rw [HCM.out] at KM;have HO6:Hid (OwnN W5 w1.heap.size (.slice na (log.length+1) nc) (.slice xa vs.length xc) (.slice (some ⟨g3,0,none⟩) mt.length yc) (log++ [⟨te,d⟩]) vs (mt.set i ((log.length:Int)+1))):=O6;clear o6 ov6 om6 hml O6 nmg nvg nvm lo4 gv gm;have hD:Below W5.heap.size W5 W5.drew:=(Below.refl _ _).drew;replace X6:=X6.below hD;replace Y6:=Y6.below hD;replace hB6:=za_ hB6 hD;refine wp_region_held_drew (S:=fun w'=>Box w' w.heap.size [i,pe,te,vo,.slice na (log.length+1) nc,co,(2:Int),.slice xa vs.length xc,.slice (some ⟨g3,0,none⟩) mt.length yc]) (by kernel_rfl) X6 (fun zb_=> ?_);obtain⟨v0,hv0⟩:∃v0,v0=W5.drew:=⟨_,rfl⟩;rw [←hv0] at X6 Y6 hB6 hD ⊢;clear hv0;refine tkH 0 (.agg #[i,pe,te,vo,.slice na (log.length+1) nc,co,(2:Int),.slice xa vs.length xc,.slice (some ⟨g3,0,none⟩) mt.length yc]) rfl ?_ ?_
 ·intro wx hSw;have e0:=hSw.2.1 0 _ rfl;have e1:=hSw.2.1 1 _ rfl;have e2:=hSw.2.1 2 _ rfl;have e3:=hSw.2.1 3 _ rfl;have e4:=hSw.2.1 4 _ rfl;have e5:=hSw.2.1 5 _ rfl;have e6:=hSw.2.1 6 _ rfl;have e7:=hSw.2.1 7 _ rfl;have e8:=hSw.2.1 8 _ rfl;clear zb_;go_simp
 simp only [Act.put,sA_,sB_,sC_];refine tkH 2 (.pointer (some ⟨w.heap.size,4,none⟩)) rfl ?_ ?_
 ·intro wx hSw;clear hSw zb_;go_simp
 simp only [Act.put,sA_,sB_,sC_];refine tkH 3 (.slice na (log.length+1) nc) rfl ?_ ?_
 ·intro wx hSw;have e4:=hSw.2.1 4 _ rfl;clear zb_;go_simp
 simp only [Act.put,sA_,sB_,sC_];refine tkH 4 (.int .i64 ((log.length:Int)+1)) rfl ?_ ?_
 ·intro wx hSw;clear hSw zb_;go_simp
 simp only [Act.put,sA_,sB_,sC_];refine rd1 1 rfl (fun K hK=> ?_);clear zb_;go_simp;refine (KM _ hD).mono ?_;rintro e w7 ⟨rfl,hb7⟩;replace X6:=X6.below hb7;replace Y6:=Y6.below hb7;replace hB6:=za_ hB6 hb7;have O7:=(HO6.out.below hD).below hb7;have hz7:=hb7.size;clear KM;refine hK.out _ _ X6 (fun zb_=> ?_);clear hK K;refine rd1 5 rfl (fun K hK=> ?_);clear zb_;have hC:=zo_ w7 (w.heap.size+1) i pe te vo (.slice na (log.length+1) nc) cm (.int .i64 2) (.slice xa vs.length xc) (.slice (some ⟨g3,0,none⟩) mt.length yc);have Z:=zp_ Y6 i pe te vo (.slice na (log.length+1) nc) cm (.int .i64 2) (.slice xa vs.length xc) (.slice (some ⟨g3,0,none⟩) mt.length yc);have X8:=hC.box X6 (by omega);have O8:=(O7.chg hC (fun b hb hh=>by have:=gO6 b hb;have hh:b=w.heap.size+1:=hh;omega)).mono (show w.heap.size≤w1.heap.size from by omega);have hBE:=hB6.trans (hC.b1 hB6.size (by omega));obtain⟨hyl,y0,y1,y2,y3,y4,y5,y6,y7,y8⟩:=Y6.e9;obtain⟨f0,f1,f2,f3,f4,f5,f6,f7,f8⟩:=Y6.f9;clear hC X6 Y6 hB6 O7 HO6 hb7 hD;obtain⟨WZ,hWZ⟩:∃WZ,WZ=put9 w7 (w.heap.size+1) (.int .i64 i) (.int .i64 pe) (.int .i64 te) (.int .i64 vo) (.slice na (log.length+1) nc) (.int .i64 cm) (.int .i64 2) (.slice xa vs.length xc) (.slice (some ⟨g3,0,none⟩) mt.length yc):=⟨_,rfl⟩;rw [←hWZ] at Z X8 O8 hBE;unfold put9 at hWZ;go_simp;rw [←hWZ];refine hK.out _ _ X8 (fun zb_=> ?_);clear hK K hWZ hyl y0 y1 y2 y3 y4 y5 y6 y7 y8 f0 f1 f2 f3 f4 f5 f6 f7 f8;refine tkH 6 (.int .i64 ((log.length:Int)+1)) rfl ?_ ?_
 ·intro wx hSw;clear hSw zb_;go_simp
 simp only [Act.put,sA_,sB_,sC_];refine tkH 7 (.bool true) rfl ?_ ?_
 ·intro wx hSw;clear hSw zb_;go_simp
 simp only [Act.put,sA_,sB_,sC_];clear zb_;refine wpAnyH_done (by kernel_rfl) ?_ _;obtain⟨hzl,t0,t1,t2,t3,t4,t5,t6,t7,t8⟩:=Z.e9;clear Z X8;go_wp2;exact bodyPost_ret (v:= .tuple #[.agg #[i,pe,te,vo,.slice na (log.length+1) nc,cm,(2:Int),.slice xa vs.length xc,.slice (some ⟨g3,0,none⟩) mt.length yc],((log.length:Int)+1:Int),true]) (by simp [results,Try.results11,go_sem,t0,t1,t2,t3,t4,t5,t6,t7,t8]) rfl ⟨_,_,_,by rw [HCM.out],O8,hBE⟩
end Go.Proofs.Ytapfhhmimkkhnaa
