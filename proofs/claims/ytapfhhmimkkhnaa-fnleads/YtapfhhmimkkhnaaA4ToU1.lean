/-
  A node copied: the specification's l11Own.
  CrashNode: both sides.
  CommittedIn: both sides.
  UpToDate: both sides; the term at an index.
-/
import Derived.Test.YtapfhhmimkkhnaaN1ToA3
namespace Go.Proofs.Ytapfhhmimkkhnaa
open Go.RowKit Go.Maps
set_option linter.unusedVariables false
set_option maxRecDepth 100000
set_option maxHeartbeats 4000000
theorem yd_ (id pe te vo co ro:Int) (vl vv vm:Value) (log:List En) (vs mt:List Int) (w:World) (hl:ER w vl log) (hv:IL w vv vs) (hm:IL w vm mt) (sl:Nn vl) (sv:Nn vv) (sm:Nn vm) (nl:log.length≤1048576) (nv:vs.length≤1048576) (nm:mt.length≤1048576):
  Calls Try.prog 60 #[.agg #[id,pe,te,vo,vl,co,ro,vv,vm]] w fun e w'=>∃ul uv um,e= .returned (.agg #[id,pe,te,vo,ul,co,ro,uv,um])∧OwnN w' w.heap.size ul uv um log vs mt∧Below w.heap.size w w':=by
 obtain⟨W0,hW0,hB,X,Y,hz00⟩:=al2 w [id,pe,te,vo,vl,co,ro,vv,vm] 26 zN 26;have E1:=fun W (h:Below w.heap.size w W)=>hl.below h;have E2:=fun W (h:Below w.heap.size w W)=>hv.below h;have E3:=fun W (h:Below w.heap.size w W)=>hm.below h;obtain⟨la,lc,rfl,hlc⟩:=hl;obtain⟨va,vc,rfl,hvc⟩:=hv;obtain⟨ma,mc,rfl,hmc⟩:=hm;clear hlc hvc hmc sl sv sm;obtain⟨xl,x0,x1,x2,x3,x4,x5,x6,x7,x8⟩:=X.e9;obtain⟨f0,f1,f2,f3,f4,f5,f6,f7,f8⟩:=X.f9;go_enter Try.func60,Try.ntmps60;have hzq:W0.heap.size=w.heap.size+1+1:=by rw [hW0];simp
 have o0:(W0.alloc (.cells #[] 34)).ownsRow (w.heap.size+1+1) 34 2 (.slice (some ⟨w.heap.size+1+1,0,none⟩) 0 0) 0 (zE_ []):=by rw [←hzq];exact World.ownsRow_lit W0 #[] 0 (Nat.le_refl _) (by simp [maxLen]) (by simp)
 have hzq1:W0.heap.size≤w.heap.size+1+1:=by omega
 have hzq2:w.heap.size+1+1≤W0.heap.size:=by omega
 clear hzq;have hBa:=zc_ W0 (.cells #[] 34);have hE:=E1 _ (za_ hB hBa);go_wp2_with (at_builtin;refine zB_.go ?_);rw [←hW0];unfold zB_;refine zJ_ _ rfl _ _ rfl rfl (w.heap.size+1+1) _ 0 [] rfl o0 _ log rfl hE (by omega) (by simp;omega) ?_;intro u0 w1 o1 hgr;clear hW0;simp only [Nat.zero_add,List.nil_append] at o1;have hb:=grown_below hBa hgr (by simp) (show _≤w.heap.size+1+1 from hzq1);clear hgr o0 hE E1;have hzb:=hB.size;replace hB:=za_ hB hb;replace X:=X.below hb;replace Y:=Y.below hb;clear xl x0 x1 x2 x3 x4 x5 x6 x7 x8 f0 f1 f2 f3 f4 f5 f6 f7 f8;have g0:=ze_ o1;have l0:=zh_ o1;have hz0:=hb.size;clear hb hBa;obtain⟨ua,uc,rfl⟩:=zf_ o1;obtain⟨xl,x0,x1,x2,x3,x4,x5,x6,x7,x8⟩:=X.e9;obtain⟨f0,f1,f2,f3,f4,f5,f6,f7,f8⟩:=X.f9;obtain⟨W1,hW1⟩:∃W,W=w1.setCell ⟨w.heap.size,4,none⟩ (.slice ua log.length uc):=⟨_,rfl⟩;have hC:Chg (fun k=>k=w.heap.size) w1 W1:=by rw [hW1];exact Chg.setCell (S:=fun k=>k=w.heap.size) (Chg.refl _ _) rfl _
 replace hB:=hB.trans (hC.below (B:=w.heap.size) hB.size (fun k hk=>by omega));have hxb:=X.1;replace Y:=hC.box Y (by omega);replace X:Box W1 w.heap.size [id,pe,te,vo,.slice ua log.length uc,co,ro,.slice va vs.length vc,.slice ma mt.length mc]:=by rw [hW1];exact X.set 4 _ (by simp)
 replace o1:=hC.owns o1 (fun b hb hh=>by have:=g0 b hb;have hh:b=w.heap.size:=hh;omega);have hzz0:w1.heap.size≤W1.heap.size:=by rw [hW1];simp
 have hzy0:W1.heap.size≤w1.heap.size:=by rw [hW1];simp
 clear hC hxb;obtain⟨sl,s0,s1,s2,s3,s4,s5,s6,s7,s8⟩:=X.e9;have hzq:W1.heap.size=w1.heap.size:=by rw [hW1];simp
 have o0:(W1.alloc (.cells #[] 3)).ownsRow (w1.heap.size) 3 1 (.slice (some ⟨w1.heap.size,0,none⟩) 0 0) 0 (([]:List Int).map (.int .i64)):=by rw [←hzq];exact World.ownsRow_lit W1 #[] 0 (Nat.le_refl _) (by simp [maxLen]) (by simp)
 have hzq1:W1.heap.size≤w1.heap.size:=by omega
 have hzq2:w1.heap.size≤W1.heap.size:=by omega
 clear hzq;have hBa:=zc_ W1 (.cells #[] 3);have hE:=E2 _ (za_ hB hBa);go_wp2_with (at_builtin;refine zB_.go ?_);rw [←hW1];unfold zB_;refine zw_ _ rfl _ _ rfl rfl (w1.heap.size) _ 0 [] rfl o0 _ vs rfl hE (by omega) (by simp;omega) ?_;intro u1 w2 o2 hgr;clear hW1;simp only [Nat.zero_add,List.nil_append] at o2;have hb:=grown_below hBa hgr (by simp) (show _≤w1.heap.size from hzq1);clear hgr o0 hE E2;have hzb:=hB.size;replace hB:=za_ hB hb;replace X:=X.below hb;replace Y:=Y.below hb;replace o1:=zd_ o1 hb;clear xl x0 x1 x2 x3 x4 x5 x6 x7 x8 f0 f1 f2 f3 f4 f5 f6 f7 f8;clear sl s0 s1 s2 s3 s4 s5 s6 s7 s8;have g1:=ze_ o2;have l1:=zh_ o2;have hz1:=hb.size;clear hb hBa;obtain⟨xa,xc,rfl⟩:=zf_ o2;obtain⟨xl,x0,x1,x2,x3,x4,x5,x6,x7,x8⟩:=X.e9;obtain⟨f0,f1,f2,f3,f4,f5,f6,f7,f8⟩:=X.f9;obtain⟨W2,hW2⟩:∃W,W=w2.setCell ⟨w.heap.size,7,none⟩ (.slice xa vs.length xc):=⟨_,rfl⟩;have hC:Chg (fun k=>k=w.heap.size) w2 W2:=by rw [hW2];exact Chg.setCell (S:=fun k=>k=w.heap.size) (Chg.refl _ _) rfl _
 replace hB:=hB.trans (hC.below (B:=w.heap.size) hB.size (fun k hk=>by omega));have hxb:=X.1;replace Y:=hC.box Y (by omega);replace X:Box W2 w.heap.size [id,pe,te,vo,.slice ua log.length uc,co,ro,.slice xa vs.length xc,.slice ma mt.length mc]:=by rw [hW2];exact X.set 7 _ (by simp)
 replace o1:=hC.owns o1 (fun b hb hh=>by have:=g0 b hb;have hh:b=w.heap.size:=hh;omega);replace o2:=hC.owns o2 (fun b hb hh=>by have:=g1 b hb;have hh:b=w.heap.size:=hh;omega);have hzz1:w2.heap.size≤W2.heap.size:=by rw [hW2];simp
 have hzy1:W2.heap.size≤w2.heap.size:=by rw [hW2];simp
 clear hC hxb;obtain⟨sl,s0,s1,s2,s3,s4,s5,s6,s7,s8⟩:=X.e9;have hzq:W2.heap.size=w2.heap.size:=by rw [hW2];simp
 have o0:(W2.alloc (.cells #[] 3)).ownsRow (w2.heap.size) 3 1 (.slice (some ⟨w2.heap.size,0,none⟩) 0 0) 0 (([]:List Int).map (.int .i64)):=by rw [←hzq];exact World.ownsRow_lit W2 #[] 0 (Nat.le_refl _) (by simp [maxLen]) (by simp)
 have hzq1:W2.heap.size≤w2.heap.size:=by omega
 have hzq2:w2.heap.size≤W2.heap.size:=by omega
 clear hzq;have hBa:=zc_ W2 (.cells #[] 3);have hE:=E3 _ (za_ hB hBa);go_wp2_with (at_builtin;refine zB_.go ?_);rw [←hW2];unfold zB_;refine zw_ _ rfl _ _ rfl rfl (w2.heap.size) _ 0 [] rfl o0 _ mt rfl hE (by omega) (by simp;omega) ?_;intro u2 w3 o3 hgr;clear hW2;simp only [Nat.zero_add,List.nil_append] at o3;have hb:=grown_below hBa hgr (by simp) (show _≤w2.heap.size from hzq1);clear hgr o0 hE E3;have hzb:=hB.size;replace hB:=za_ hB hb;replace X:=X.below hb;replace Y:=Y.below hb;replace o1:=zd_ o1 hb;replace o2:=zd_ o2 hb;clear xl x0 x1 x2 x3 x4 x5 x6 x7 x8 f0 f1 f2 f3 f4 f5 f6 f7 f8;clear sl s0 s1 s2 s3 s4 s5 s6 s7 s8;have g2:=ze_ o3;have l2:=zh_ o3;have hz2:=hb.size;clear hb hBa;obtain⟨ya,yc,rfl⟩:=zf_ o3;obtain⟨xl,x0,x1,x2,x3,x4,x5,x6,x7,x8⟩:=X.e9;obtain⟨f0,f1,f2,f3,f4,f5,f6,f7,f8⟩:=X.f9;have hCa:Chg (fun k=>k=w.heap.size) w3 (w3.setCell ⟨w.heap.size,8,none⟩ (.slice ya mt.length yc)):=Chg.setCell (S:=fun k=>k=w.heap.size) (Chg.refl _ _) rfl _;have Ya:=hCa.box Y (by omega);have hCb:=zo_ (w3.setCell ⟨w.heap.size,8,none⟩ (.slice ya mt.length yc)) (w.heap.size+1) id pe te vo (.slice ua log.length uc) co ro (.slice xa vs.length xc) (.slice ya mt.length yc);have Z:=zp_ Ya id pe te vo (.slice ua log.length uc) co ro (.slice xa vs.length xc) (.slice ya mt.length yc);have hC:Chg (fun k=>k=w.heap.size∨k=w.heap.size+1) w3 _:=(hCa.mono fun k hk=>Or.inl hk).trans (hCb.mono fun k hk=>Or.inr hk);have O:OwnN w3 (w.heap.size+1+1) (.slice ua log.length uc) (.slice xa vs.length xc) (.slice ya mt.length yc) log vs mt:=⟨zg_ o1 (by omega),zg_ o2 (by omega),zg_ o3 (by omega),fun g hg hg'=>by have:=l1 g hg;have:=g2 g hg';omega⟩;have O':=(O.chg hC (fun b hb hh=>by have:=(O.lt b hb).1;have hh:b=w.heap.size∨b=w.heap.size+1:=hh;omega)).mono (show w.heap.size≤w.heap.size+1+1 from by omega);have hBE:=hB.trans (hC.below (B:=w.heap.size) hB.size (fun k hk=>by omega));obtain⟨ql,q0,q1,q2,q3,q4,q5,q6,q7,q8⟩:=Y.e9;obtain⟨h0,h1,h2,h3,h4,h5,h6,h7,h8⟩:=Y.f9;clear hCa hCb hC O o1 o2 o3 hB X Y Ya g0 g1 g2 l0 l1 l2;obtain⟨hzl,t0,t1,t2,t3,t4,t5,t6,t7,t8⟩:=Z.e9;clear Z;unfold put9 at*;go_wp2;exact bodyPost_ret (v:= .agg #[id,pe,te,vo,.slice ua log.length uc,co,ro,.slice xa vs.length xc,.slice ya mt.length yc]) (by simp [results,Try.results60,go_sem,t0,t1,t2,t3,t4,t5,t6,t7,t8]) rfl ⟨_,_,_,rfl,O',hBE⟩
end Go.Proofs.Ytapfhhmimkkhnaa
namespace Go.Proofs.Ytapfhhmimkkhnaa
open Go.RowKit
set_option linter.unusedVariables false
set_option maxRecDepth 100000
set_option maxHeartbeats 4000000
structure Nd where
 id:Int
 pe:Int
 te:Int
 vo:Int
 co:Int
 ro:Int
 log:List En
 vs:List Int
 mt:List Int
def Nd.zero:Nd:=⟨0,0,0,0,0,0,[],[],[]⟩
def crashN (g:Bool) (id pe te vo:Int) (log:List En):Nd:=if g then⟨id,pe,te,vo,0,0,log,[],[]⟩ else Nd.zero
theorem OwnN.nns {w:World} {base:Nat} {vl vv vm:Value} {log:List En} {vs mt:List Int} (h:OwnN w base vl vv vm log vs mt):Nn vl∧Nn vv∧Nn vm:=⟨Nn.own h.l,Nn.own h.v,Nn.own h.m⟩
theorem specCrash_any (id pe te vo co ro:Int) (vl vv vm:Value) (log:List En) (vs mt:List Int) (base:Nat) (w:World) (ho:OwnN w base vl vv vm log vs mt) (nl:log.length≤1048576) (nv:vs.length≤1048576) (nm:mt.length≤1048576) (ns:∀i (h:i<log.length),log[i].d.size≤1048576):
  Calls Try.prog 161 #[.agg #[id,pe,te,vo,vl,co,ro,vv,vm]] w fun e w'=>∃ul uv um,e= .returned (.tuple #[.agg #[.int .i64 (crashN (zk_ id pe te vo co ro log vs mt) id pe te vo log).id,.int .i64 (crashN (zk_ id pe te vo co ro log vs mt) id pe te vo log).pe,.int .i64 (crashN (zk_ id pe te vo co ro log vs mt) id pe te vo log).te,.int .i64 (crashN (zk_ id pe te vo co ro log vs mt) id pe te vo log).vo,ul,.int .i64 (crashN (zk_ id pe te vo co ro log vs mt) id pe te vo log).co,.int .i64 (crashN (zk_ id pe te vo co ro log vs mt) id pe te vo log).ro,uv,um],.bool (zk_ id pe te vo co ro log vs mt)])∧OwnN w' w.heap.size ul uv um (crashN (zk_ id pe te vo co ro log vs mt) id pe te vo log).log (crashN (zk_ id pe te vo co ro log vs mt) id pe te vo log).vs (crashN (zk_ id pe te vo co ro log vs mt) id pe te vo log).mt∧Below w.heap.size w w':=by
 obtain⟨W0,hW0,hB,X,Y,hz00⟩:=al2 w [id,pe,te,vo,vl,co,ro,vv,vm] 26 zN 26;have ho0:=ho.below hB;have K:=zt_ id pe te vo co ro vl vv vm log vs mt _ ho0.er ho0.iv ho0.im nl nv nm ns;have K2:=fun W (h:Below w.heap.size w W)=>yd_ id pe te vo co ro vl vv vm log vs mt W (ho.below h).er (ho.below h).iv (ho.below h).im ho.nns.1 ho.nns.2.1 ho.nns.2.2 nl nv nm;generalize zk_ id pe te vo co ro log vs mt=g at*;obtain⟨⟨la,lc,rfl⟩,⟨va,vc,rfl⟩,ma,mc,rfl⟩:=ho.shapes;clear ns ho0 ho
 cases g with
 | false=>
  show Calls Try.prog 161 _ w fun e w'=>∃ul uv um,e= .returned (.tuple #[.agg #[(0:Int),(0:Int),(0:Int),(0:Int),ul,(0:Int),(0:Int),uv,um],false])∧OwnN w' w.heap.size ul uv um [] [] []∧Below w.heap.size w w';go_enter Try.func161,Try.ntmps161;go_wp2_with fail;rw [←hW0];clear hW0;refine K.mono ?_;rintro e w1 ⟨rfl,hb⟩;replace hB:=za_ hB hb;replace Y:=Y.below hb;clear K hb K2 X;obtain⟨hyl,y0,y1,y2,y3,y4,y5,y6,y7,y8⟩:=Y.e9;obtain⟨f0,f1,f2,f3,f4,f5,f6,f7,f8⟩:=Y.f9;have hC:=zo_ w1 (w.heap.size+1) (0:Int) (0:Int) (0:Int) (0:Int) () (0:Int) (0:Int) () ();have Z:=zp_ Y (0:Int) (0:Int) (0:Int) (0:Int) () (0:Int) (0:Int) () ();have hBE:=hB.trans (hC.b1 hB.size (by omega));have O:=OwnN.nil (put9 w1 (w.heap.size+1) (.int .i64 0) (.int .i64 0) (.int .i64 0) (.int .i64 0) (.slice none 0 0) (.int .i64 0) (.int .i64 0) (.slice none 0 0) (.slice none 0 0)) w.heap.size;obtain⟨hzl,t0,t1,t2,t3,t4,t5,t6,t7,t8⟩:=Z.e9;clear Z hC hB Y;unfold put9 at*;go_wp2;exact bodyPost_ret (v:= .tuple #[.agg zN,false]) (by simp [results,Try.results161,go_sem,t0,t1,t2,t3,t4,t5,t6,t7,t8]) rfl ⟨_,_,_,rfl,O,hBE⟩
 | true=>
  show Calls Try.prog 161 _ w fun e w'=>∃ul uv um,e= .returned (.tuple #[.agg #[id,pe,te,vo,ul,(0:Int),(0:Int),uv,um],true])∧OwnN w' w.heap.size ul uv um log [] []∧Below w.heap.size w w';go_enter Try.func161,Try.ntmps161;go_wp2_with fail;rw [←hW0];clear hW0;refine K.mono ?_;rintro e w1 ⟨rfl,hb⟩;replace hB:=za_ hB hb;replace Y:=Y.below hb;replace X:=X.below hb;have hz1:=hb.size;clear K hb;obtain⟨hxl,x0,x1,x2,x3,x4,x5,x6,x7,x8⟩:=X.e9;go_wp2_with fail;refine (K2 _ hB).mono ?_;rintro e w2 ⟨u1,u2,u3,rfl,O,hb⟩;replace hB:=za_ hB hb;replace Y:=Y.below hb;replace X:=X.below hb;have hz2:=hb.size;have gO:=fun b hb=>(O.lt b hb).1;clear K2 hb hxl x0 x1 x2 x3 x4 x5 x6 x7 x8;obtain⟨⟨ua,uc,rfl⟩,⟨xa,xc,rfl⟩,ya,yc,rfl⟩:=O.shapes;go_wp2_with fail;refine (zG_ _ _ _ _ _ _ _ _ _ ua log.length uc rfl _ ⟨_,_,_,rfl⟩ ⟨_,_,_,rfl⟩).mono ?_;rintro e w3 ⟨rfl,hb⟩;replace hB:=za_ hB hb;replace Y:=Y.below hb;replace X:=X.below hb;replace O:=O.below hb;clear hb;obtain⟨hxl,x0,x1,x2,x3,x4,x5,x6,x7,x8⟩:=X.e9;obtain⟨e0,e1,e2,e3,e4,e5,e6,e7,e8⟩:=X.f9;obtain⟨hyl,y0,y1,y2,y3,y4,y5,y6,y7,y8⟩:=Y.e9;obtain⟨f0,f1,f2,f3,f4,f5,f6,f7,f8⟩:=Y.f9;have hC1:=zo_ w3 w.heap.size id pe te vo (.slice ua log.length uc) co (0:Int) () ();have Z1:=zp_ X id pe te vo (.slice ua log.length uc) co (0:Int) () ();have hC2:Chg (· =w.heap.size) w3 ((put9 w3 w.heap.size (.int .i64 id) (.int .i64 pe) (.int .i64 te) (.int .i64 vo) (.slice ua log.length uc) (.int .i64 co) (.int .i64 0) (.slice none 0 0) (.slice none 0 0)).setCell ⟨w.heap.size,5,none⟩ (.int .i64 0)):=Chg.setCell (S:=fun k=>k=w.heap.size) hC1 rfl _;have Z2:=Z1.set 5 (.int .i64 0) (by simp);have Ya:=hC2.box Y (by omega);have hC3:=zo_ ((put9 w3 w.heap.size id pe te vo (.slice ua log.length uc) co (0:Int) () ()).setCell ⟨w.heap.size,5,none⟩ (0:Int)) (w.heap.size+1) id pe te vo (.slice ua log.length uc) (0:Int) (0:Int) () ();have Z:=zp_ Ya id pe te vo (.slice ua log.length uc) (0:Int) (0:Int) () ();have hC:Chg (fun k=>k=w.heap.size∨k=w.heap.size+1) w3 _:=(hC2.mono fun k hk=>Or.inl hk).trans (hC3.mono fun k hk=>Or.inr hk);have hO:=hC.owns (zg_ O.l (show w.heap.size≤w1.heap.size from by omega)) (fun b hb hh=>by have:=gO b (.inl hb);have hh:b=w.heap.size∨b=w.heap.size+1:=hh;omega);have hBE:=hB.trans (hC.below (B:=w.heap.size) hB.size (fun k hk=>by omega));obtain⟨hsl,s0,s1,s2,s3,s4,s5,s6,s7,s8⟩:=Z2.e9;obtain⟨hzl,t0,t1,t2,t3,t4,t5,t6,t7,t8⟩:=Z.e9;clear Z hC hB Y X Z1 Z2 Ya hC1 hC2 hC3 gO O;unfold put9 at*;go_wp2;exact bodyPost_ret (v:= .tuple #[.agg #[id,pe,te,vo,.slice ua log.length uc,(0:Int),(0:Int),(),()],true]) (by simp [results,Try.results161,go_sem,t0,t1,t2,t3,t4,t5,t6,t7,t8]) rfl ⟨_,_,_,rfl,⟨hO,World.ownsRow_nil _ _ _ _,World.ownsRow_nil _ _ _ _,fun g hg=>by simp [Value.ownBlock] at hg⟩,hBE⟩
end Go.Proofs.Ytapfhhmimkkhnaa
namespace Go.Proofs.Ytapfhhmimkkhnaa
open Go.RowKit Go.Maps
set_option linter.unusedVariables false
set_option maxRecDepth 100000
theorem owns_cap {w:World} {base:Nat} {e:TypeId} {size n m c:Nat} {a:Option Addr} {xs:List Value} (h:w.ownsRow base e size (.slice a m c) n xs):n≤c∧m=n:=by
 rcases h.2 with⟨h1,h0⟩ | ⟨g,cap,cur,h1,_,_,hcap,_⟩
 ·simp at h1;omega
 ·simp at h1;omega
theorem goodN_co {id pe te vo co ro:Int} {log:List En} {vs mt:List Int} (h:zk_ id pe te vo co ro log vs mt=true):0≤co∧co≤(log.length:Int):=by
 rw [zK_] at h;simp [inB] at h;omega
theorem Nn.sl {a:Option Addr} {n c m:Nat} (h:Nn (.slice a n c)) (hm:m≤c):Nn (.slice a m c):=by
 intro x y he;simp only [Value.slice.injEq] at he;obtain⟨rfl,rfl,rfl⟩:=he;have:=(h _ _ rfl).2;omega
end Go.Proofs.Ytapfhhmimkkhnaa
namespace Go.Proofs.Ytapfhhmimkkhnaa
open Go.RowKit
set_option linter.unusedVariables false
set_option maxRecDepth 100000
set_option maxHeartbeats 4000000
def tmAt (log:List En) (i:Nat):Int:=if i=0 then 0 else (log.getD (i-1) En.zero).t
theorem tmAt_zero (log:List En):tmAt log 0=0:=rfl
theorem tmAt_succ (log:List En) (i:Nat) (h:i<log.length):tmAt log (i+1)=log[i].t:=by simp [tmAt,h]
def zM_ (log:List En) (ix tm:Int):Bool:=decide (tmAt log log.length<tm) || (decide (tm=tmAt log log.length)&&decide ((log.length:Int)≤ix))
theorem termAt_any (id pe te vo co ro:Int) (vl vv vm:Value) (log:List En) (vs mt:List Int) (i:Nat) (w:World) (hl:ER w vl log) (hv:IL w vv vs) (hm:IL w vm mt) (hi:i≤log.length) (nl:log.length≤1048576):
  Calls Try.prog 66 #[.agg #[id,pe,te,vo,vl,co,ro,vv,vm],i] w fun e w'=>e= .returned (.int .i64 (tmAt log i))∧Below w.heap.size w w':=by
 have hB:=zc_ w (.cells #[id,pe,te,vo,vl,co,ro,vv,vm] 26);obtain⟨la,lc,rfl,hlc⟩:=hl;obtain⟨va,vc,rfl,hvc⟩:=hv;obtain⟨ma,mc,rfl,hmc⟩:=hm;clear hvc hmc
 cases i with
 | zero=>
  clear hlc;rw [tmAt_zero];go_enter Try.func66,Try.ntmps66;go_wp2;go_ret;exact⟨rfl,hB⟩
 | succ j=>
  rw [tmAt_succ log j (by omega)];obtain⟨b,off,rfl,hbl,hcell⟩:=hlc (by intro e;rw [e] at hi;simp at hi);have c0:=(hcell j (by omega)).1;have hj0:(((j+1:Nat):Int)==0)=false:=by simp;omega
  have hj1:(((j+1:Nat):Int)-1)=(j:Int):=by omega
  have hj2:j<log.length:=by omega
  clear hcell;generalize log[j].t=s at*;go_enter Try.func66,Try.ntmps66;go_wp2;go_ret;exact⟨rfl,hB⟩
theorem l11Term_any (id pe te vo co ro:Int) (vl vv vm:Value) (log:List En) (vs mt:List Int) (i:Nat) (w:World) (hl:ER w vl log) (hv:IL w vv vs) (hm:IL w vm mt) (hi:i≤log.length) (nl:log.length≤1048576):
  Calls Try.prog 69 #[.agg #[id,pe,te,vo,vl,co,ro,vv,vm],i] w fun e w'=>e= .returned (.int .i64 (tmAt log i))∧Below w.heap.size w w':=by
 have hB:=zc_ w (.cells #[id,pe,te,vo,vl,co,ro,vv,vm] 26);obtain⟨la,lc,rfl,hlc⟩:=hl;obtain⟨va,vc,rfl,hvc⟩:=hv;obtain⟨ma,mc,rfl,hmc⟩:=hm;clear hvc hmc
 cases i with
 | zero=>
  clear hlc;rw [tmAt_zero];go_enter Try.func69,Try.ntmps69;go_wp2;go_ret;exact⟨rfl,hB⟩
 | succ j=>
  rw [tmAt_succ log j (by omega)];obtain⟨b,off,rfl,hbl,hcell⟩:=hlc (by intro e;rw [e] at hi;simp at hi);have c0:=(hcell j (by omega)).1;have hj0:(((j+1:Nat):Int)==0)=false:=by simp;omega
  have hj1:(((j+1:Nat):Int)-1)=(j:Int):=by omega
  have hj2:j<log.length:=by omega
  clear hcell;generalize log[j].t=s at*;go_enter Try.func69,Try.ntmps69;go_wp2;go_ret;exact⟨rfl,hB⟩
theorem notAhead_any (id pe te vo co ro:Int) (vl vv vm:Value) (log:List En) (vs mt:List Int) (ix tm:Int) (w:World) (hl:ER w vl log) (hv:IL w vv vs) (hm:IL w vm mt) (nl:log.length≤1048576):
  Calls Try.prog 73 #[.agg #[id,pe,te,vo,vl,co,ro,vv,vm],ix,tm] w fun e w'=>e= .returned (.bool (zM_ log ix tm))∧Below w.heap.size w w':=by
 have hB:=zc_ w (.cells #[id,pe,te,vo,vl,co,ro,vv,vm] 26);have X:=Box.new w #[id,pe,te,vo,vl,co,ro,vv,vm] 26;have K:=termAt_any id pe te vo co ro vl vv vm log vs mt log.length _ (hl.below hB) (hv.below hB) (hm.below hB) (Nat.le_refl _) nl;have HO:Hid (zM_ log ix tm=(decide (tmAt log log.length<tm) || (decide (tm=tmAt log log.length)&&decide ((log.length:Int)≤ix)))):=rfl;generalize zM_ log ix tm=R at*;generalize tmAt log log.length=z at*;obtain⟨la,lc,rfl,hlc⟩:=hl;obtain⟨va,vc,rfl,hvc⟩:=hv;obtain⟨ma,mc,rfl,hmc⟩:=hm;clear hlc hvc hmc;go_enter Try.func73,Try.ntmps73;go_wp2_with fail;refine K.mono ?_;rintro e w1 ⟨rfl,hb⟩;replace hB:=za_ hB hb;replace X:=X.below hb;clear K hb;obtain⟨hxl,x0,x1,x2,x3,x4,x5,x6,x7,x8⟩:=X.e9;by_cases c1:z<tm
 ·go_wp2;go_ret;exact⟨by rw [HO.out,decide_eq_true c1];rfl,hB⟩
 ·by_cases c2:tm=z
  ·subst c2;by_cases c3:(log.length:Int)≤ix
   ·go_wp2;go_ret;exact⟨by rw [HO.out,decide_eq_false (show ¬tm<tm from by omega),decide_eq_true c3];simp,hB⟩
   ·go_wp2;go_ret;exact⟨by rw [HO.out,decide_eq_false (show ¬tm<tm from by omega),decide_eq_false (show ¬(log.length:Int)≤ix from by omega)];simp,hB⟩
  ·have c4:(tm==z)=false:=by simp [c2]
   go_wp2;go_ret;exact⟨by rw [HO.out,decide_eq_false (show ¬z<tm from by omega),decide_eq_false c2];rfl,hB⟩
theorem l11UpTo_any (id pe te vo co ro:Int) (vl vv vm:Value) (log:List En) (vs mt:List Int) (ix tm:Int) (w:World) (hl:ER w vl log) (hv:IL w vv vs) (hm:IL w vm mt) (nl:log.length≤1048576):
  Calls Try.prog 74 #[.agg #[id,pe,te,vo,vl,co,ro,vv,vm],ix,tm] w fun e w'=>e= .returned (.bool (zM_ log ix tm))∧Below w.heap.size w w':=by
 have hB:=zc_ w (.cells #[id,pe,te,vo,vl,co,ro,vv,vm] 26);have X:=Box.new w #[id,pe,te,vo,vl,co,ro,vv,vm] 26;have K:=l11Term_any id pe te vo co ro vl vv vm log vs mt log.length _ (hl.below hB) (hv.below hB) (hm.below hB) (Nat.le_refl _) nl;have HO:Hid (zM_ log ix tm=(decide (tmAt log log.length<tm) || (decide (tm=tmAt log log.length)&&decide ((log.length:Int)≤ix)))):=rfl;generalize zM_ log ix tm=R at*;generalize tmAt log log.length=z at*;obtain⟨la,lc,rfl,hlc⟩:=hl;obtain⟨va,vc,rfl,hvc⟩:=hv;obtain⟨ma,mc,rfl,hmc⟩:=hm;clear hlc hvc hmc;go_enter Try.func74,Try.ntmps74;go_wp2_with fail;refine K.mono ?_;rintro e w1 ⟨rfl,hb⟩;replace hB:=za_ hB hb;replace X:=X.below hb;clear K hb;obtain⟨hxl,x0,x1,x2,x3,x4,x5,x6,x7,x8⟩:=X.e9;by_cases c1:z<tm
 ·go_wp2;go_ret;exact⟨by rw [HO.out,decide_eq_true c1];rfl,hB⟩
 ·by_cases c2:tm=z
  ·subst c2;by_cases c3:(log.length:Int)≤ix
   ·go_wp2;go_ret;exact⟨by rw [HO.out,decide_eq_false (show ¬tm<tm from by omega),decide_eq_true c3];simp,hB⟩
   ·go_wp2;go_ret;exact⟨by rw [HO.out,decide_eq_false (show ¬tm<tm from by omega),decide_eq_false (show ¬(log.length:Int)≤ix from by omega)];simp,hB⟩
  ·have c4:(tm==z)=false:=by simp [c2]
   go_wp2;go_ret;exact⟨by rw [HO.out,decide_eq_false (show ¬z<tm from by omega),decide_eq_false c2];rfl,hB⟩
def upOk (g:Bool) (ix tm:Int):Bool:=g&&(decide (0≤ix)&&decide (0≤tm))
def upB (g:Bool) (log:List En) (ix tm:Int):Bool:=upOk g ix tm&&zM_ log ix tm
theorem implUpTo_any (id pe te vo co ro:Int) (vl vv vm:Value) (log:List En) (vs mt:List Int) (ix tm:Int) (w:World) (hl:ER w vl log) (hv:IL w vv vs) (hm:IL w vm mt) (nl:log.length≤1048576) (nv:vs.length≤1048576) (nm:mt.length≤1048576) (ns:∀i (h:i<log.length),log[i].d.size≤1048576):
  Calls Try.prog 21 #[.agg #[id,pe,te,vo,vl,co,ro,vv,vm],ix,tm] w fun e w'=>e= .returned (.tuple #[.bool (upB (zk_ id pe te vo co ro log vs mt) log ix tm),.bool (upOk (zk_ id pe te vo co ro log vs mt) ix tm)])∧Below w.heap.size w w':=by
 have hB:=zc_ w (.cells #[id,pe,te,vo,vl,co,ro,vv,vm] 26);have X:=Box.new w #[id,pe,te,vo,vl,co,ro,vv,vm] 26;have K:=implGoodN_any id pe te vo co ro vl vv vm log vs mt _ (hl.below hB) (hv.below hB) (hm.below hB) nl nv nm ns;have K2:=fun W (h:Below w.heap.size w W)=>notAhead_any id pe te vo co ro vl vv vm log vs mt ix tm W (hl.below h) (hv.below h) (hm.below h) nl;generalize zk_ id pe te vo co ro log vs mt=g at*;have HO:Hid (upOk g ix tm=(g&&(decide (0≤ix)&&decide (0≤tm)))):=rfl;have HB:Hid (upB g log ix tm=(upOk g ix tm&&zM_ log ix tm)):=rfl;generalize upB g log ix tm=R at*;generalize upOk g ix tm=ok at*;generalize zM_ log ix tm=z at*;obtain⟨la,lc,rfl,hlc⟩:=hl;obtain⟨va,vc,rfl,hvc⟩:=hv;obtain⟨ma,mc,rfl,hmc⟩:=hm;clear hlc hvc hmc ns;go_enter Try.func21,Try.ntmps21;go_wp2_with fail;refine K.mono ?_;rintro e w1 ⟨rfl,hb⟩;replace hB:=za_ hB hb;replace X:=X.below hb;clear K hb;obtain⟨hxl,x0,x1,x2,x3,x4,x5,x6,x7,x8⟩:=X.e9
 cases g
 ·go_wp2;go_ret2;exact⟨by rw [HB.out,HO.out];rfl,hB⟩
 by_cases c1:0≤ix;rotate_left
 ·go_wp2;go_ret2;exact⟨by rw [HB.out,HO.out,decide_eq_false (show ¬0≤ix from by omega)];rfl,hB⟩
 by_cases c2:0≤tm;rotate_left
 ·go_wp2;go_ret2;exact⟨by rw [HB.out,HO.out,decide_eq_false (show ¬0≤tm from by omega),Bool.and_false];rfl,hB⟩
 go_wp2_with fail;refine (K2 _ hB).mono ?_;rintro e w2 ⟨rfl,hb⟩;replace hB:=za_ hB hb;clear K2 hb;go_wp2;go_ret2;exact⟨by rw [HB.out,HO.out,decide_eq_true (show 0≤ix from by omega),decide_eq_true (show 0≤tm from by omega)];rfl,hB⟩
theorem specUpTo_any (id pe te vo co ro:Int) (vl vv vm:Value) (log:List En) (vs mt:List Int) (ix tm:Int) (w:World) (hl:ER w vl log) (hv:IL w vv vs) (hm:IL w vm mt) (nl:log.length≤1048576) (nv:vs.length≤1048576) (nm:mt.length≤1048576) (ns:∀i (h:i<log.length),log[i].d.size≤1048576):
  Calls Try.prog 22 #[.agg #[id,pe,te,vo,vl,co,ro,vv,vm],ix,tm] w fun e w'=>e= .returned (.tuple #[.bool (upB (zk_ id pe te vo co ro log vs mt) log ix tm),.bool (upOk (zk_ id pe te vo co ro log vs mt) ix tm)])∧Below w.heap.size w w':=by
 have hB:=zc_ w (.cells #[id,pe,te,vo,vl,co,ro,vv,vm] 26);have X:=Box.new w #[id,pe,te,vo,vl,co,ro,vv,vm] 26;have K:=zt_ id pe te vo co ro vl vv vm log vs mt _ (hl.below hB) (hv.below hB) (hm.below hB) nl nv nm ns;have K2:=fun W (h:Below w.heap.size w W)=>l11UpTo_any id pe te vo co ro vl vv vm log vs mt ix tm W (hl.below h) (hv.below h) (hm.below h) nl;generalize zk_ id pe te vo co ro log vs mt=g at*;have HO:Hid (upOk g ix tm=(g&&(decide (0≤ix)&&decide (0≤tm)))):=rfl;have HB:Hid (upB g log ix tm=(upOk g ix tm&&zM_ log ix tm)):=rfl;generalize upB g log ix tm=R at*;generalize upOk g ix tm=ok at*;generalize zM_ log ix tm=z at*;obtain⟨la,lc,rfl,hlc⟩:=hl;obtain⟨va,vc,rfl,hvc⟩:=hv;obtain⟨ma,mc,rfl,hmc⟩:=hm;clear hlc hvc hmc ns;go_enter Try.func22,Try.ntmps22;go_wp2_with fail;refine K.mono ?_;rintro e w1 ⟨rfl,hb⟩;replace hB:=za_ hB hb;replace X:=X.below hb;clear K hb;obtain⟨hxl,x0,x1,x2,x3,x4,x5,x6,x7,x8⟩:=X.e9
 cases g
 ·go_wp2;go_ret2;exact⟨by rw [HB.out,HO.out];rfl,hB⟩
 by_cases c1:0≤ix;rotate_left
 ·go_wp2;go_ret2;exact⟨by rw [HB.out,HO.out,decide_eq_false (show ¬0≤ix from by omega)];rfl,hB⟩
 by_cases c2:0≤tm;rotate_left
 ·go_wp2;go_ret2;exact⟨by rw [HB.out,HO.out,decide_eq_false (show ¬0≤tm from by omega),Bool.and_false];rfl,hB⟩
 go_wp2_with fail;refine (K2 _ hB).mono ?_;rintro e w2 ⟨rfl,hb⟩;replace hB:=za_ hB hb;clear K2 hb;go_wp2;go_ret2;exact⟨by rw [HB.out,HO.out,decide_eq_true (show 0≤ix from by omega),decide_eq_true (show 0≤tm from by omega)];rfl,hB⟩
end Go.Proofs.Ytapfhhmimkkhnaa
