/-
  A node put back as it is: the specification's l12Set.
  A step on a cluster of one's own, the specification's way: an append sent.
  A step of no kind, the specification's way.
  A message doubled, the specification's way.
  A step that is a message's, the specification's way.
  A step on a cluster of one's own, the specification's way, whatever the kind (a delivery told from outside).
-/
import Derived.Test.YtapfhhmimkkhnaaGreatSTToPLI
import Derived.Test.YtapfhhmimkkhnaaGreatSS1
namespace Go.Proofs.YtapfhhmimkkhnaaGreat
open Go.RowKit Go.Maps
set_option linter.unusedVariables false
set_option maxRecDepth 100000
set_option maxHeartbeats 16000000
theorem OwnC.sameN {W W':World} {lo hi:Nat} {vn vm vl:Value} {N:List Nv} {M:List Mv} {L:List Ld} (h:OwnC W lo hi vn vm vl N M L) (ho:W'.ownsRow lo 42 9 vn N.length (zI_ N)) (hC:Chg (fun b=>vn.ownBlock=some b∨hi≤b) W W'):OwnC W' lo hi vn vm vl N M L:=by
 obtain⟨c1,c2⟩:=h.chains hC fun b q=>q.elim .inl fun q=> .inr (.inr (.inr q));exact⟨ho,hC.owns h.m fun b hb q=>q.elim (zn_ h.m h.n (by decide) b hb) fun q=>by have:=h.bm b hb;omega,hC.owns h.l fun b hb q=>q.elim (zn_ h.l h.n (by decide) b hb) fun q=>by have:=h.bl b hb;omega,c1,c2,h.ap,h.bn,h.bm,h.bl⟩
theorem tI_ (lo hi:Nat) (vn vm vl:Value) (N:List Nv) (M:List Mv) (L:List Ld) (j:Nat) (hj:j<N.length) (pe te vo co ro:Int) (la:Option Addr) (lc:Nat) (va:Option Addr) (vc:Nat) (ma2:Option Addr) (mc2:Nat) (log:List En) (vs mt:List Int) (w:World) (h:OwnC w lo hi vn vm vl N M L) (hsm:N[j]=⟨⟨j,pe,te,vo,co,ro,log,vs,mt⟩,la,lc,va,vc,ma2,mc2⟩) (hh:hi≤w.heap.size) (hL:L.length≤1000):
  Calls Tryz.prog 96 #[.agg #[vn,vm,vl],.agg #[j,pe,te,vo,.slice la log.length lc,co,ro,.slice va vs.length vc,.slice ma2 mt.length mc2]] w fun e w'=>e= .returned (.agg #[vn,vm,vl])∧OwnC w' lo hi vn vm vl N M L∧Chg (fun b=>vn.ownBlock=some b∨vl.ownBlock=some b) w w':=by
 obtain⟨⟨na,nc,rfl⟩,⟨ma,mc,rfl⟩,ya,yc,rfl⟩:=h.shapes;obtain⟨g,rfl⟩:∃g,na=some ⟨g,0,none⟩:=by
  rcases h.n.2 with⟨_,h0⟩ | ⟨g,cap,cur,hv,_⟩
  ·omega
  ·simp only [Value.slice.injEq] at hv;exact⟨g,hv.1⟩
 obtain⟨W0,hW0,hB,X,Y,Z,hz0⟩:=al3 w [.slice (some ⟨g,0,none⟩) N.length nc,.slice ma M.length mc,.slice ya L.length yc] 30 [j,pe,te,vo,.slice la log.length lc,co,ro,.slice va vs.length vc,.slice ma2 mt.length mc2] 42 z3 30;have hzw:w.heap.size≤W0.heap.size:=hB.size;have HCB:Hid (Chg (fun b=>(.slice (some ⟨g,0,none⟩) N.length nc:Value).ownBlock=some b∨(.slice ya L.length yc:Value).ownBlock=some b) w W0):=Chg.of_below hB;have hgi:lo≤g∧g<hi:=⟨zg_ h.n g rfl,h.bn g rfl⟩;have hli:∀b,(Value.slice ya L.length yc).ownBlock=some b→lo≤b∧b<hi:=fun b hb=>⟨zg_ h.l b hb,h.bl b hb⟩;have hlg:∀b,(Value.slice ya L.length yc).ownBlock=some b→¬b=g:=fun b hb e=>zn_ h.l h.n (by decide) b hb (by rw [e];rfl);have h0:=h.below hB;have HSM:Hid (N[j]=⟨⟨j,pe,te,vo,co,ro,log,vs,mt⟩,la,lc,va,vc,ma2,mc2⟩):=hsm;clear h hB hsm;obtain⟨y,HY⟩:∃y,Hid (N[j]=y):=⟨N[j],(rfl:N[j]=N[j])⟩;have hN:=h0.n;have HOV:Hid (OwnC W0 lo hi (.slice (some ⟨g,0,none⟩) N.length nc) (.slice ma M.length mc) (.slice ya L.length yc) N M L):=h0;obtain⟨hgl,c0,c1,c2,c3,c4,c5,c6,c7,c8⟩:=zR_ hN j hj rfl;rw [HY.out] at c0 c1 c2 c3 c4 c5 c6 c7 c8;have V:=Box.new W0 y 42;have hBA:=zb_ W0 (.cells y 42);have hs1:(W0.alloc (.cells y 42)).heap.size=W0.heap.size+1:=by simp
 obtain⟨xl,x0,x1,x2,xf0,xf1,xf2⟩:=X.c3f;obtain⟨yyl,y0,y1,y2,y3,y4,y5,y6,y7,y8⟩:=Y.e9;go_enter Tryz.func96,Tryz.ntmps96;go_upto_region 1 with fail;rw [←hW0];clear hW0;go_upto_region 2 with fail;obtain⟨W1,hW1⟩:∃W,W=W0.alloc (.cells y 42):=⟨_,rfl⟩;rw [←hW1] at V hBA hs1 ⊢;have hs2:W0.heap.size≤W1.heap.size:=by omega
 clear hs1;clear hW1 c0 c1 c2 c3 c4 c5 c6 c7 c8 hgl xl x0 x1 x2 xf0 xf1 xf2 yyl y0 y1 y2 y3 y4 y5 y6 y7 y8 h0;have X1:=X.below hBA;have Y1:=Y.below hBA;have Z1:=Z.below hBA;have o1:=zd_ hN hBA;have ol1:=zd_ HOV.out.l hBA;have HC1:Hid (Chg (fun b=>b=g) W0 W1):=Chg.of_below hBA;clear hBA hN X Y Z;obtain⟨xl,x0,x1,x2,xf0,xf1,xf2⟩:=X1.c3f;obtain⟨yyl,y0,y1,y2,y3,y4,y5,y6,y7,y8⟩:=Y1.e9;obtain⟨vvl,v0,v1,v2,v3,v4,v5,v6,v7,v8⟩:=V.e9;obtain⟨cb,hcb⟩:∃cb:Bool,Hid (cb=decide (ro=2∧¬(y.n.ro=2∧y.n.te=te)∧L.length<1000)):=⟨_,(rfl:decide (ro=2∧¬(y.n.ro=2∧y.n.te=te)∧L.length<1000)=_)⟩;have hL1:(L.length:Int)≤1000:=by omega
 go_cut [32] from 6 (fun t wq=>t= .bool cb∧wq=W1)
 case first=>
  have hl:=hcb.out;clear hcb;by_cases q0:ro=2
  ·have q1:Hid (ro=2):=q0;have b1:(ro==2)=true:=by simp [q0]
   have b2:decide (ro=2)=true:=by simp [q0]
   clear q0;by_cases q2:y.n.ro=2
   ·by_cases q3:y.n.te=te
    ·go_wp2_with fail;go_meet
     case rel=>exact⟨by rw [hl];simp [q1.out,q2,q3],by first | trivial | rfl⟩
    ·by_cases q4:L.length<1000
     ·have q5:(L.length:Int)<1000:=by omega
      go_wp2_with fail;go_meet
      case rel=>exact⟨by rw [hl];simp [q1.out,q2,q3,q4],by first | trivial | rfl⟩
     ·have q5:¬(L.length:Int)<1000:=by omega
      go_wp2_with fail;go_meet
      case rel=>exact⟨by rw [hl];simp [q1.out,q2,q3,q4],by first | trivial | rfl⟩
   ·by_cases q4:L.length<1000
    ·have q5:(L.length:Int)<1000:=by omega
     go_wp2_with fail;go_meet
     case rel=>exact⟨by rw [hl];simp [q1.out,q2,q4],by first | trivial | rfl⟩
    ·have q5:¬(L.length:Int)<1000:=by omega
     go_wp2_with fail;go_meet
     case rel=>exact⟨by rw [hl];simp [q1.out,q2,q4],by first | trivial | rfl⟩
  ·go_wp2_with fail;go_meet
   case rel=>exact⟨by rw [hl];simp [q0],by first | trivial | rfl⟩
 case rest=>
  obtain⟨rfl,hwc⟩:=hcut;rw [hwc];clear hwc vvl v0 v1 v2 v3 v4 v5 v6 v7 v8 V;have hcf:cb=false:=by
   have e:y=⟨⟨j,pe,te,vo,co,ro,log,vs,mt⟩,la,lc,va,vc,ma2,mc2⟩:=by rw [←HY.out];exact HSM.out
   rw [hcb.out,e];simp;exact fun a b=>absurd a b
  clear hcb
  cases cb with
  | false=>
   clear hcf;go_upto_region 4 with fail;have o2:=xo_ o1 j ⟨⟨j,pe,te,vo,co,ro,log,vs,mt⟩,la,lc,va,vc,ma2,mc2⟩;have hC2:=xA_ W1 g j ⟨⟨j,pe,te,vo,co,ro,log,vs,mt⟩,la,lc,va,vc,ma2,mc2⟩;obtain⟨W2,hW2⟩:∃W,W=vt_ W1 g j ⟨⟨j,pe,te,vo,co,ro,log,vs,mt⟩,la,lc,va,vc,ma2,mc2⟩:=⟨_,rfl⟩;rw [←hW2] at o2 hC2;have X2:=hC2.box X1 (by omega);have Z2:=hC2.box Z1 (by omega);have hz2:=hC2.size;obtain⟨hgl,c0,c1,c2,c3,c4,c5,c6,c7,c8⟩:=zR_ o1 j hj rfl;obtain⟨f0,f1,f2,f3,f4,f5,f6,f7,f8⟩:=frz9 o1 (j*9);unfold vt_ set9 at hW2;go_upto_region 5 with fail;rw [←hW2];clear hW2 c0 c1 c2 c3 c4 c5 c6 c7 c8 hgl f0 f1 f2 f3 f4 f5 f6 f7 f8 xl x0 x1 x2 xf0 xf1 xf2 yyl y0 y1 y2 y3 y4 y5 y6 y7 y8 o1 X1 Y1 Z1;obtain⟨W5,hW5,hC5,Z5⟩:=zi_ W2 Z2 (.slice (some ⟨g,0,none⟩) N.length nc) (.slice ma M.length mc) (.slice ya L.length yc);have hz5:=hC5.size;have o5:=hC5.owns o2 (fun b hb hh=>by simp only [Value.ownBlock,Option.some.injEq] at hb;have hh:b=w.heap.size+1+1:=hh;omega);have hS:Chg (fun b=>b=g∨b=w.heap.size+1+1) W0 W5:=((HC1.out.mono fun b hb=> .inl hb).trans (hC2.mono fun b hb=> .inl hb)).trans (hC5.mono fun b hb=> .inr hb);have esm:N.set j ⟨⟨j,pe,te,vo,co,ro,log,vs,mt⟩,la,lc,va,vc,ma2,mc2⟩=N:=by rw [←HSM.out];exact List.set_getElem_self hj
   rw [esm] at o5;have hFF:Hid (OwnC W5 lo hi (.slice (some ⟨g,0,none⟩) N.length nc) (.slice ma M.length mc) (.slice ya L.length yc) N M L):=HOV.out.sameN o5 (hS.mono fun b hb=>hb.elim (fun q=> .inl (by rw [q];rfl)) fun q=> .inr (by omega));have hCF:Hid (Chg (fun b=>(.slice (some ⟨g,0,none⟩) N.length nc:Value).ownBlock=some b∨(.slice ya L.length yc:Value).ownBlock=some b) w W5):=HCB.out.nextC hS fun b q=>q.elim (fun q=> .inl (.inl (by rw [q];rfl))) fun q=> .inr (by omega);clear hS;clear hC5 o2 hC2 o5 HOV HCB HC1 HSM;obtain⟨xl,x0,x1,x2⟩:=X2.c3;obtain⟨ztl,zz0,zz1,zz2,zf0,zf1,zf2⟩:=Z2.c3f;clear Z2 X2;obtain⟨tl,t0,t1,t2⟩:=Z5.c3;clear Z5;unfold put3 at*;go_wp2;rw [←hW5];exact bodyPost_ret (v:= .agg #[.slice (some ⟨g,0,none⟩) N.length nc,.slice ma M.length mc,.slice ya L.length yc]) (by simp [results,Tryz.results96,go_sem,t0,t1,t2]) rfl ⟨rfl,hFF.out,hCF.out⟩
  | true=>cases hcf
theorem qh_ (lo hi:Nat) (vn vm vl:Value) (N:List Nv) (M:List Mv) (L:List Ld) (x:Nv) (j:Nat) (hid:x.n.id=(j:Int)) (hj:j<N.length) (hsm:N[j]=x) (w:World) (h:OwnC w lo hi vn vm vl N M L) (hh:hi≤w.heap.size) (hL:L.length≤1000):
  Calls Tryz.prog 96 #[.agg #[vn,vm,vl],.agg x] w fun e w'=>e= .returned (.agg #[vn,vm,vl])∧OwnC w' lo hi vn vm vl N M L∧Chg (fun b=>vn.ownBlock=some b∨vl.ownBlock=some b) w w':=by
 obtain⟨⟨id,pe,te,vo,co,ro,log,vs,mt⟩,la,lc,va,vc,ma,mc'⟩:=x;dsimp only at hid;subst hid;exact tI_ lo hi vn vm vl N M L j hj pe te vo co ro la lc va vc ma mc' log vs mt w h hsm hh hL
theorem qT_ (p lo hi:Nat) (vn vm vl:Value) (N:List Nv) (M:List Mv) (L:List Ld) (no k mn:Int) (d:ByteArray) (w:World) (h:OwnC w lo hi vn vm vl N M L) (hh:hi≤w.heap.size) (hG:PG p (N.map Nv.n) (M.map Mv.q) L) (hd:d.size≤1048576):
  Calls Tryz.prog 46 #[.agg #[vn,vm,vl],.agg #[(6:Int),no,k,mn,d]] w fun e w'=>yO_ w' lo (stB (N.map Nv.n) (M.map Mv.q) ⟨6,no,k,mn,d⟩) (stN (N.map Nv.n) (M.map Mv.q) ⟨6,no,k,mn,d⟩) (stM (N.map Nv.n) (M.map Mv.q) ⟨6,no,k,mn,d⟩) (stL (N.map Nv.n) (M.map Mv.q) L ⟨6,no,k,mn,d⟩) e∧Chg (fun b=>lo≤b∧b<hi) w w':=by
 have hlh:=h.lohi;obtain⟨⟨na,nc,rfl⟩,⟨ma,mc,rfl⟩,ya,yc,rfl⟩:=h.shapes;obtain⟨W0,hW0,hB,X,Y,Z,hz0⟩:=al3 w [.slice na N.length nc,.slice ma M.length mc,.slice ya L.length yc] 30 [(6:Int),no,k,mn,d] 51 z3 30;have hzw:=hB.size;have hT0:TyB W0 (w.heap.size+1+1) 30:=⟨z3,by
  rw [hW0];have:=heap_alloc_new ((w.alloc (.cells #[.slice na N.length nc,.slice ma M.length mc,.slice ya L.length yc] 30)).alloc (.cells #[(6:Int),no,k,mn,d] 51)) (.cells z3 30);simpa using this⟩
 have HBL:=h.hbl;have HB:stB (N.map Nv.n) (M.map Mv.q) ⟨6,no,k,mn,d⟩=(isP no N.length&&afOk (gN (atN (N.map Nv.n) no)) (atN (N.map Nv.n) no).id (atN (N.map Nv.n) no).pe (atN (N.map Nv.n) no).ro k mn):=by simp [stB]
 have h0:=h.below hB;have KI:=fun W=>zu_ 6 2 4 W;rw [show inB 6 2 4=false from by decide] at KI;have KP:∀W,Calls Tryz.prog 42 #[no,(0:Int),((N.length:Int)-1:Int)] W fun e w'=>e= .returned (.bool (isP no N.length))∧w'=W:=fun W=>by rw [←yM_];exact zu_ no 0 ((N.length:Int)-1) W
 have hn7:N.length≤7:=by have h1:=hG.n;have:=hG.p7;rw [List.length_map] at h1;omega
 clear h;obtain⟨yl,y0,y1,y2,y3,y4⟩:=Y.c5;obtain⟨xl,x0,x1,x2⟩:=X.c3;go_enter Tryz.func46,Tryz.ntmps46;go_upto_region 1 with fail;rw [←hW0];clear hW0;go_wp2_with fail;refine (KI _).mono ?_;rintro e w1 ⟨rfl,hw1⟩;rw [hw1];clear hw1 KI w1;go_wp2_with fail;refine (KP _).mono ?_;rintro e w1 ⟨rfl,hw1⟩;rw [hw1];clear hw1 KP w1;by_cases hP:isP no N.length=true;rotate_left
 ·replace hP:isP no N.length=false:=by simpa using hP
  rw [hP,Bool.false_and] at HB;rw [hP];clear h0;obtain⟨W5,hW5,hC5,Z5⟩:=zi_ W0 Z (.slice na N.length nc) (.slice ma M.length mc) (.slice ya L.length yc);have hBF:Hid (Chg (fun b=>lo≤b∧b<hi) w W5):=Chg.of_below (hB.trans (hC5.b1 (B:=w.heap.size) (by have:=hB.size;omega) (by omega)));have HF:Hid (stB (N.map Nv.n) (M.map Mv.q) ⟨6,no,k,mn,d⟩=false):=HB;clear hC5;obtain⟨zl,z0,z1,z2,f0,f1,f2⟩:=Z.c3f;clear Z;obtain⟨tl,t0,t1,t2⟩:=Z5.c3;clear Z5;unfold put3 at*;go_wp2;rw [←hW5];exact bodyPost_ret (v:= .tuple #[.agg #[.slice na N.length nc,.slice ma M.length mc,.slice ya L.length yc],false]) (by simp [results,Tryz.results46,go_sem,t0,t1,t2]) rfl ⟨.inr ⟨HF.out,_,_,_,_,_,_,_,_,_,rfl⟩,hBF.out⟩
 rw [hP];obtain⟨j,rfl,hj⟩:=yu_ hP;rw [zw_ hj,hP,Bool.true_and] at HB;obtain⟨c,hcb,hpx,_⟩:=h0.cn.at j hj;have hgd:Gd N[j].n∧N[j].n.id=(j:Int):=by
  obtain⟨a,b,_,_⟩:=hG.g j (by rw [List.length_map];exact hj);rw [List.getElem_map] at a b;exact⟨a,b⟩
 have hKN:Hid (stN (N.map Nv.n) (M.map Mv.q) ⟨6,(j:Int),k,mn,d⟩=N.map Nv.n):=by
  show _=_;simp only [stN,zw_ hj];simp
 have hKM:Hid (stM (N.map Nv.n) (M.map Mv.q) ⟨6,(j:Int),k,mn,d⟩=xh_ (M.map Mv.q) [afX N[j].n k mn]):=by
  show _=_;simp only [stM,zw_ hj];simp
 have hKL:Hid (stL (N.map Nv.n) (M.map Mv.q) L ⟨6,(j:Int),k,mn,d⟩=L):=by
  show _=_;simp only [stL,zw_ hj];simp
 have hL1:=hG.l;have hM1:=hG.m6;rw [List.length_map] at hM1;have hNid:Hid (N[j].n.id=(j:Int)):=hgd.2;obtain⟨g,rfl⟩:∃g,na=some ⟨g,0,none⟩:=by
  rcases h0.n.2 with⟨_,h0⟩ | ⟨g,cap,cur,hv,_⟩
  ·omega
  ·simp only [Value.slice.injEq] at hv;exact⟨g,hv.1⟩
 obtain⟨hgl,c0,c1,c2,c3,c4,c5,c6,c7,c8⟩:=zR_ h0.n j hj rfl;obtain⟨ok,hok⟩:∃ok,ok=afOk (gN N[j].n) N[j].n.id N[j].n.pe N[j].n.ro k mn:=⟨_,rfl⟩;have KT:=fun W (q:Below W0.heap.size W0 W)=>specAFC N[j] k mn c W (OwnN.below hpx q) hgd.1 ok hok;rw [←hok] at HB;clear hpx hgd hok hcb hP hd;have HBH:Hid _:=HB;clear HB;obtain⟨xo,HXO⟩:∃xo,Hid (N[j]=xo):=⟨N[j],(rfl:N[j]=N[j])⟩;rw [HXO.out] at c0 c1 c2 c3 c4 c5 c6 c7 c8 KT hNid;have V:=Box.new W0 xo 42;have hBA:=zb_ W0 (.cells xo 42);go_upto_region 6 with fail;obtain⟨W1,hW1⟩:∃W,W=W0.alloc (.cells xo 42):=⟨_,rfl⟩;rw [←hW1] at V hBA ⊢;have hs2:W0.heap.size<W1.heap.size:=by rw [hW1];simp
 clear hW1 c0 c1 c2 c3 c4 c5 c6 c7 c8 hgl yl y0 y1 y2 y3 y4 xl x0 x1 x2;have KT1:=KT W1 hBA;replace X:=X.below hBA;replace Y:=Y.below hBA;replace Z:=Z.below hBA;replace hT0:=hT0.below hBA;replace h0:=h0.below hBA;replace hB:=za_ hB hBA;clear hBA KT;obtain⟨yl,y0,y1,y2,y3,y4⟩:=Y.c5;obtain⟨xl,x0,x1,x2⟩:=X.c3;obtain⟨vvl,v0,v1,v2,v3,v4,v5,v6,v7,v8⟩:=V.e9;go_wp2_with fail;refine KT1.mono ?_;rintro e w2 ⟨hA,hb2⟩;replace X:=X.below hb2;replace Y:=Y.below hb2;replace Z:=Z.below hb2;replace hT0:=hT0.below hb2;replace h0:=h0.below hb2;replace hB:=za_ hB hb2;replace V:=V.below hb2;have hz2:=hb2.size;clear KT1 hb2 yl y0 y1 y2 y3 y4 xl x0 x1 x2 vvl v0 v1 v2 v3 v4 v5 v6 v7 v8 Y;rcases hA with⟨hok,x,rfl,hxz,hpx⟩ | ⟨hok,x,rfl⟩;rotate_left
 ·have HB:=HBH.out;rw [hok] at HB;replace HB:Hid _:=HB;clear hok HBH;have hBA:=zb_ w2 (.cells x 80);have T:=Box.new w2 x 80;replace X:=X.below hBA;replace Z:=Z.below hBA;replace V:=V.below hBA;replace hT0:=hT0.below hBA;replace h0:=h0.below hBA;replace hB:=za_ hB hBA;go_upto_region 17 with fail;obtain⟨W3,hW3⟩:∃W,W=w2.alloc (.cells x 80):=⟨_,rfl⟩;rw [←hW3] at hBA T X Z V hT0 h0 hB ⊢;have hz3:w2.heap.size≤W3.heap.size:=hBA.size;clear hW3 hBA;obtain⟨tl,t0,t1,t2,t3,t4,t5,t6,t7,t8⟩:=T.e9;have hBA:=zb_ W3 (.cells x 80);have hr:(W3.alloc (.cells x 80)).ownsRow W3.heap.size 80 9 (.slice (some ⟨W3.heap.size,0,none⟩) 1 1) 1 (zo_ [x]):=World.ownsRow_lit W3 x 1 (Nat.le_refl _) (by simp [maxLen]) (by simp);replace X:=X.below hBA;replace Z:=Z.below hBA;replace V:=V.below hBA;replace hT0:=hT0.below hBA;replace h0:=h0.below hBA;replace hB:=za_ hB hBA;go_upto_region 19 with fail;obtain⟨W4,hW4⟩:∃W,W=W3.alloc (.cells x 80):=⟨_,rfl⟩;rw [←hW4] at hBA hr X Z V hT0 h0 hB ⊢;have hz4:W3.heap.size≤W4.heap.size:=hBA.size;clear hW4 hBA tl t0 t1 t2 t3 t4 t5 t6 t7 t8 T;obtain⟨xl,x0,x1,x2⟩:=X.c3;clear h0 hr V;obtain⟨W5,hW5,hC5,Z5⟩:=zi_ W4 Z (.slice (some ⟨g,0,none⟩) N.length nc) (.slice ma M.length mc) (.slice ya L.length yc);have hBF:Hid (Chg (fun b=>lo≤b∧b<hi) w W5):=Chg.of_below (hB.trans (hC5.b1 (B:=w.heap.size) (by have:=hB.size;omega) (by omega)));have HF:Hid (stB (N.map Nv.n) (M.map Mv.q) ⟨6,(j:Int),k,mn,d⟩=false):=HB.out;clear hC5;obtain⟨zl,z0,z1,z2,f0,f1,f2⟩:=Z.c3f;clear Z;obtain⟨tl,t0,t1,t2⟩:=Z5.c3;clear Z5;unfold put3 at*;go_wp2;rw [←hW5];exact bodyPost_ret (v:= .tuple #[.agg #[.slice (some ⟨g,0,none⟩) N.length nc,.slice ma M.length mc,.slice ya L.length yc],false]) (by simp [results,Tryz.results46,go_sem,t0,t1,t2]) rfl ⟨.inr ⟨HF.out,_,_,_,_,_,_,_,_,_,rfl⟩,hBF.out⟩
 have HOK:Hid (stB (N.map Nv.n) (M.map Mv.q) ⟨6,(j:Int),k,mn,d⟩=true):=by show _=_;rw [HBH.out,hok]
 replace hxz:Hid (x.q=afX xo.n k mn):=hxz;have hel:x.q.es.length≤1000:=by
  have e:x.q=_:=hxz.out;rw [e];have hgx:Gd xo.n:=by rw [←HXO.out];have:=(hG.g j (by rw [List.length_map];exact hj)).1;rw [List.getElem_map] at this;exact this
  have:=hgx.ll;show (afE xo.n.log _ _).length≤1000;unfold afE;simp only [List.length_take,List.length_drop];omega
 clear HBH hok;have hBA:=zb_ w2 (.cells x 80);have T:=Box.new w2 x 80;replace X:=X.below hBA;replace Z:=Z.below hBA;replace V:=V.below hBA;replace hT0:=hT0.below hBA;replace h0:=h0.below hBA;replace hB:=za_ hB hBA;replace hpx:PM _ W1.heap.size x:=zd_ hpx hBA;go_upto_region 17 with fail;obtain⟨W3,hW3⟩:∃W,W=w2.alloc (.cells x 80):=⟨_,rfl⟩;rw [←hW3] at hBA T X Z V hT0 h0 hB hpx ⊢;have hz3:w2.heap.size≤W3.heap.size:=hBA.size;clear hW3 hBA;obtain⟨tl,t0,t1,t2,t3,t4,t5,t6,t7,t8⟩:=T.e9;have hBA:=zb_ W3 (.cells x 80);have hr:(W3.alloc (.cells x 80)).ownsRow W3.heap.size 80 9 (.slice (some ⟨W3.heap.size,0,none⟩) 1 1) 1 (zo_ [x]):=World.ownsRow_lit W3 x 1 (Nat.le_refl _) (by simp [maxLen]) (by simp);replace X:=X.below hBA;replace Z:=Z.below hBA;replace V:=V.below hBA;replace hT0:=hT0.below hBA;replace h0:=h0.below hBA;replace hB:=za_ hB hBA;replace hpx:PM _ W1.heap.size x:=zd_ hpx hBA;go_upto_region 19 with fail;obtain⟨W4,hW4⟩:∃W,W=W3.alloc (.cells x 80):=⟨_,rfl⟩;rw [←hW4] at hBA hr X Z V hT0 h0 hB hpx ⊢;have hz4:W3.heap.size≤W4.heap.size:=hBA.size;clear hW4 hBA tl t0 t1 t2 t3 t4 t5 t6 t7 t8 T;obtain⟨xl,x0,x1,x2⟩:=X.c3;have hhi3:hi≤W4.heap.size:=by omega
 have hnR:∀b,((.slice (some ⟨g,0,none⟩) N.length nc:Value).ownBlock=some b∨(.slice ya L.length yc:Value).ownBlock=some b)→lo≤b∧b<hi:=fun b hb=>HBL.out b (hb.elim .inl fun q=> .inr (.inr q));obtain⟨vvl,v0,v1,v2,v3,v4,v5,v6,v7,v8⟩:=V.e9;go_wp2_with fail;refine (qh_ lo hi _ _ _ N M L xo j (by rw [←HXO.out];exact (by rw [HXO.out];exact hNid.out)) hj HXO.out W4 h0 hhi3 hL1).mono ?_;rintro e w5 ⟨rfl,h5,hc5⟩;have hz5:=hc5.size;replace Z:=hc5.box Z (by intro q;have:=hnR _ q;omega);replace hT0:=hT0.chg hc5 (by intro q;have:=hnR _ q;omega);have HB5:Hid (Chg (fun b=>lo≤b∧b<hi) w w5):=(Chg.of_below hB).nextC hc5 (fun b q=> .inl (hnR b q));have hr5:=hc5.owns hr (fun b h1 h2=>by have:=hnR b h2;simp only [Value.ownBlock,Option.some.injEq] at h1;omega);have hp5:PM w5 W1.heap.size x:=hc5.owns hpx (fun b h1 h2=>by have:=hnR b h2;have:=(PM.in hpx b h1).1;omega);clear h0 hr hpx hB X V vvl v0 v1 v2 v3 v4 v5 v6 v7 v8 xl x0 x1 x2 hc5;go_wp2_with fail;refine (yY_ lo hi _ _ _ N M L (some ⟨W3.heap.size,0,none⟩) 1 [x] W3.heap.size w5 h5 hr5 (fun b h1 h2=>by have:=HBL.out b (.inr (.inl h2));simp only [Value.ownBlock,Option.some.injEq] at h1;omega) (by omega) (fun i hi'=>by
  obtain rfl:i=0:=by simpa using hi'
  exact⟨⟨_,hp5⟩,hel⟩) hM1 (by simp)).mono ?_
 rintro e w6 ⟨u,P,rfl,h6,hP,hc6⟩;have hz6:=hc6.size;have HP:Hid (P.map Mv.q=_):=hP;clear hP;replace Z:=hc6.box Z (by intro q;have:=HBL.out _ (.inr (.inl q));omega);replace hT0:=hT0.chg hc6 (by intro q;have:=HBL.out _ (.inr (.inl q));omega);have HB6:Hid (Chg (fun b=>lo≤b∧b<hi) w w6):=HB5.out.nextC hc6 (fun b q=> .inl (HBL.out b (.inr (.inl q))));obtain⟨MA,HMA⟩:∃MA,Hid (MA=M++P):=⟨M++P,(rfl:_=_)⟩;rw [←HMA.out] at h6;obtain⟨um,umc,rfl⟩:=h6.shapes.2.1;clear h5 hc6 HB5 hr5 hp5 hel;obtain⟨W5,hW5,hC5,Z5⟩:=zi_ w6 Z (.slice (some ⟨g,0,none⟩) N.length nc) (.slice um MA.length umc) (.slice ya L.length yc);have hz5:=hC5.size;have hFF:Hid (OwnC W5 lo W5.heap.size (.slice (some ⟨g,0,none⟩) N.length nc) (.slice um MA.length umc) (.slice ya L.length yc) N MA L):=(h6.keep hT0 hC5).hiN (by omega);clear h6;have hBF:Hid (Chg (fun b=>lo≤b∧b<hi) w W5):=HB6.out.nextC hC5 (fun b hb=> .inr (by have hb:b=w.heap.size+1+1:=hb;omega));clear hC5;obtain⟨zl,z0,z1,z2,f0,f1,f2⟩:=Z.c3f;clear Z;obtain⟨tl,t0,t1,t2⟩:=Z5.c3;clear Z5;unfold put3 at*;go_wp2;rw [←hW5];exact bodyPost_ret (v:= .tuple #[.agg #[.slice (some ⟨g,0,none⟩) N.length nc,.slice um MA.length umc,.slice ya L.length yc],true]) (by simp [results,Tryz.results46,go_sem,t0,t1,t2]) rfl ⟨.inl ⟨HOK.out,_,_,_,_,_,rfl,by rw [hKL.out];exact hFF.out,by rw [hKN.out],by rw [HMA.out,hKM.out,List.map_append,HP.out,List.map_singleton,hxz.out,HXO.out];unfold xh_;rw [List.length_map]⟩,hBF.out⟩
theorem qQ_ (p lo hi:Nat) (vn vm vl:Value) (N:List Nv) (M:List Mv) (L:List Ld) (ki no k mn:Int) (d:ByteArray) (w:World) (h:OwnC w lo hi vn vm vl N M L) (hh:hi≤w.heap.size) (hG:PG p (N.map Nv.n) (M.map Mv.q) L) (hki:¬(1≤ki∧ki≤7)):
  Calls Tryz.prog 46 #[.agg #[vn,vm,vl],.agg #[ki,no,k,mn,d]] w fun e w'=>yO_ w' lo (stB (N.map Nv.n) (M.map Mv.q) ⟨ki,no,k,mn,d⟩) (stN (N.map Nv.n) (M.map Mv.q) ⟨ki,no,k,mn,d⟩) (stM (N.map Nv.n) (M.map Mv.q) ⟨ki,no,k,mn,d⟩) (stL (N.map Nv.n) (M.map Mv.q) L ⟨ki,no,k,mn,d⟩) e∧Chg (fun b=>lo≤b∧b<hi) w w':=by
 have hlh:=h.lohi;obtain⟨⟨na,nc,rfl⟩,⟨ma,mc,rfl⟩,ya,yc,rfl⟩:=h.shapes;obtain⟨W0,hW0,hB,X,Y,Z,hz0⟩:=al3 w [.slice na N.length nc,.slice ma M.length mc,.slice ya L.length yc] 30 [ki,no,k,mn,d] 51 z3 30;have hzw:=hB.size;have hT0:TyB W0 (w.heap.size+1+1) 30:=⟨z3,by
  rw [hW0];have:=heap_alloc_new ((w.alloc (.cells #[.slice na N.length nc,.slice ma M.length mc,.slice ya L.length yc] 30)).alloc (.cells #[ki,no,k,mn,d] 51)) (.cells z3 30);simpa using this⟩
 have HBL:=h.hbl;have HB:stB (N.map Nv.n) (M.map Mv.q) ⟨ki,no,k,mn,d⟩=false:=by
  simp only [stB];rw [if_neg (by omega),if_neg (by omega),if_neg (by omega),if_neg (by omega),if_neg (by omega),if_neg (by omega),if_neg (by omega)]
 have k1:¬ki=1:=by omega
 have k5:¬ki=5:=by omega
 have k6:¬ki=6:=by omega
 have k7:¬ki=7:=by omega
 have h0:=h.below hB;have KI:=fun W=>zu_ ki 2 4 W;rw [show inB ki 2 4=false from by simp only [inB,Bool.and_eq_false_iff,decide_eq_false_iff_not];omega] at KI;have KP:∀W,Calls Tryz.prog 42 #[no,(0:Int),((N.length:Int)-1:Int)] W fun e w'=>e= .returned (.bool (isP no N.length))∧w'=W:=fun W=>by rw [←yM_];exact zu_ no 0 ((N.length:Int)-1) W
 have hn7:N.length≤7:=by have h1:=hG.n;have:=hG.p7;rw [List.length_map] at h1;omega
 replace HB:Hid _:=HB;clear h hki;obtain⟨yl,y0,y1,y2,y3,y4⟩:=Y.c5;obtain⟨xl,x0,x1,x2⟩:=X.c3;go_enter Tryz.func46,Tryz.ntmps46;go_upto_region 1 with fail;rw [←hW0];clear hW0;go_wp2_with fail;refine (KI _).mono ?_;rintro e w1 ⟨rfl,hw1⟩;rw [hw1];clear hw1 KI w1;go_wp2_with fail;refine (KP _).mono ?_;rintro e w1 ⟨rfl,hw1⟩;rw [hw1];clear hw1 KP w1;by_cases hP:isP no N.length=true;rotate_left
 ·replace hP:isP no N.length=false:=by simpa using hP
  rw [hP];clear h0;obtain⟨W5,hW5,hC5,Z5⟩:=zi_ W0 Z (.slice na N.length nc) (.slice ma M.length mc) (.slice ya L.length yc);have hBF:Hid (Chg (fun b=>lo≤b∧b<hi) w W5):=Chg.of_below (hB.trans (hC5.b1 (B:=w.heap.size) (by have:=hB.size;omega) (by omega)));have HF:Hid (stB (N.map Nv.n) (M.map Mv.q) ⟨ki,no,k,mn,d⟩=false):=HB.out;clear hC5;obtain⟨zl,z0,z1,z2,f0,f1,f2⟩:=Z.c3f;clear Z;obtain⟨tl,t0,t1,t2⟩:=Z5.c3;clear Z5;unfold put3 at*;go_wp2;rw [←hW5];exact bodyPost_ret (v:= .tuple #[.agg #[.slice na N.length nc,.slice ma M.length mc,.slice ya L.length yc],false]) (by simp [results,Tryz.results46,go_sem,t0,t1,t2]) rfl ⟨.inr ⟨HF.out,_,_,_,_,_,_,_,_,_,rfl⟩,hBF.out⟩
 rw [hP];obtain⟨j,rfl,hj⟩:=yu_ hP;obtain⟨g,rfl⟩:∃g,na=some ⟨g,0,none⟩:=by
  rcases h0.n.2 with⟨_,h0⟩ | ⟨g,cap,cur,hv,_⟩
  ·omega
  ·simp only [Value.slice.injEq] at hv;exact⟨g,hv.1⟩
 obtain⟨hgl,c0,c1,c2,c3,c4,c5,c6,c7,c8⟩:=zR_ h0.n j hj rfl;obtain⟨xo,HXO⟩:∃xo,Hid (N[j]=xo):=⟨N[j],(rfl:N[j]=N[j])⟩;rw [HXO.out] at c0 c1 c2 c3 c4 c5 c6 c7 c8;have hBA:=zb_ W0 (.cells xo 42);go_upto_region 6 with fail;obtain⟨W1,hW1⟩:∃W,W=W0.alloc (.cells xo 42):=⟨_,rfl⟩;rw [←hW1] at hBA ⊢;clear hW1 c0 c1 c2 c3 c4 c5 c6 c7 c8 hgl yl y0 y1 y2 y3 y4 xl x0 x1 x2 h0;replace X:=X.below hBA;replace Y:=Y.below hBA;replace Z:=Z.below hBA;replace hB:=za_ hB hBA;clear hBA;obtain⟨yl,y0,y1,y2,y3,y4⟩:=Y.c5;obtain⟨xl,x0,x1,x2⟩:=X.c3;obtain⟨W5,hW5,hC5,Z5⟩:=zi_ W1 Z (.slice (some ⟨g,0,none⟩) N.length nc) (.slice ma M.length mc) (.slice ya L.length yc);have hBF:Hid (Chg (fun b=>lo≤b∧b<hi) w W5):=Chg.of_below (hB.trans (hC5.b1 (B:=w.heap.size) (by have:=hB.size;omega) (by omega)));have HF:Hid (stB (N.map Nv.n) (M.map Mv.q) ⟨ki,(j:Int),k,mn,d⟩=false):=HB.out;clear hC5;obtain⟨zl,z0,z1,z2,f0,f1,f2⟩:=Z.c3f;clear Z;obtain⟨tl,t0,t1,t2⟩:=Z5.c3;clear Z5;unfold put3 at*;go_wp2;rw [←hW5];exact bodyPost_ret (v:= .tuple #[.agg #[.slice (some ⟨g,0,none⟩) N.length nc,.slice ma M.length mc,.slice ya L.length yc],false]) (by simp [results,Tryz.results46,go_sem,t0,t1,t2]) rfl ⟨.inr ⟨HF.out,_,_,_,_,_,_,_,_,_,rfl⟩,hBF.out⟩
theorem l12Msg_4 (p lo hi:Nat) (vn vm vl:Value) (N:List Nv) (M:List Mv) (L:List Ld) (no k mn:Int) (d:ByteArray) (w:World) (h:OwnC w lo hi vn vm vl N M L) (hh:hi≤w.heap.size) (hG:PG p (N.map Nv.n) (M.map Mv.q) L):
  Calls Tryz.prog 90 #[.agg #[vn,vm,vl],.agg #[(4:Int),no,k,mn,d]] w fun e w'=>yO_ w' lo (stB (N.map Nv.n) (M.map Mv.q) ⟨4,no,k,mn,d⟩) (stN (N.map Nv.n) (M.map Mv.q) ⟨4,no,k,mn,d⟩) (stM (N.map Nv.n) (M.map Mv.q) ⟨4,no,k,mn,d⟩) (stL (N.map Nv.n) (M.map Mv.q) L ⟨4,no,k,mn,d⟩) e∧Chg (fun b=>lo≤b∧b<hi) w w':=by
 have hlh:=h.lohi;obtain⟨⟨na,nc,rfl⟩,⟨ma,mc,rfl⟩,ya,yc,rfl⟩:=h.shapes;obtain⟨W0,hW0,hB,X,Y,Z,hz0⟩:=al3 w [.slice na N.length nc,.slice ma M.length mc,.slice ya L.length yc] 30 [(4:Int),no,k,mn,d] 51 z3 30;have hzw:=hB.size;have hT0:TyB W0 (w.heap.size+1+1) 30:=⟨z3,by
  rw [hW0];have:=heap_alloc_new ((w.alloc (.cells #[.slice na N.length nc,.slice ma M.length mc,.slice ya L.length yc] 30)).alloc (.cells #[(4:Int),no,k,mn,d] 51)) (.cells z3 30);simpa using this⟩
 have HBL:=h.hbl;have hM1:=hG.m6;rw [List.length_map] at hM1;have h0:=h.below hB;have KP:∀W,Calls Tryz.prog 42 #[k,(0:Int),((M.length:Int)-1:Int)] W fun e w'=>e= .returned (.bool (isP k M.length))∧w'=W:=fun W=>by rw [←yM_];exact zu_ k 0 ((M.length:Int)-1) W
 clear h;have HB0:stB (N.map Nv.n) (M.map Mv.q) ⟨4,no,k,mn,d⟩=(isP k M.length&&decide (M.length<60)):=by simp [stB]
 obtain⟨cb,hcb⟩:∃cb:Bool,Hid (cb=(isP k M.length&&decide (M.length<60))):=⟨isP k M.length&&decide (M.length<60),(rfl:_=_)⟩;have HB:Hid (stB (N.map Nv.n) (M.map Mv.q) ⟨4,no,k,mn,d⟩=cb):=by show _=_;rw [HB0,hcb.out]
 clear HB0;obtain⟨yl,y0,y1,y2,y3,y4⟩:=Y.c5;obtain⟨xl,x0,x1,x2⟩:=X.c3;go_enter Tryz.func90,Tryz.ntmps90;go_upto_region 1 with fail;rw [←hW0];clear hW0;go_wp2_with fail;refine (KP _).mono ?_;rintro e w1 ⟨rfl,hw1⟩;rw [hw1];clear hw1 KP w1;by_cases hP:isP k M.length=true;rotate_left
 ·replace hP:isP k M.length=false:=by simpa using hP
  have HBF:stB (N.map Nv.n) (M.map Mv.q) ⟨4,no,k,mn,d⟩=false:=by rw [HB.out,hcb.out,hP];rfl
  rw [hP];clear h0 HB hcb;replace HBF:Hid _:=HBF;obtain⟨W5,hW5,hC5,Z5⟩:=zi_ W0 Z (.slice na N.length nc) (.slice ma M.length mc) (.slice ya L.length yc);have hBF:Hid (Chg (fun b=>lo≤b∧b<hi) w W5):=Chg.of_below (hB.trans (hC5.b1 (B:=w.heap.size) (by have:=hB.size;omega) (by omega)));have HF:Hid (stB (N.map Nv.n) (M.map Mv.q) ⟨4,no,k,mn,d⟩=false):=HBF.out;clear hC5;obtain⟨zl,z0,z1,z2,f0,f1,f2⟩:=Z.c3f;clear Z;obtain⟨tl,t0,t1,t2⟩:=Z5.c3;clear Z5;unfold put3 at*;go_wp2;rw [←hW5];exact bodyPost_ret (v:= .tuple #[.agg #[.slice na N.length nc,.slice ma M.length mc,.slice ya L.length yc],false]) (by simp [results,Tryz.results90,go_sem,t0,t1,t2]) rfl ⟨.inr ⟨HF.out,_,_,_,_,_,_,_,_,_,rfl⟩,hBF.out⟩
 rw [hP];obtain⟨j,rfl,hj⟩:=yu_ hP;obtain⟨g,rfl⟩:∃g,ma=some ⟨g,0,none⟩:=by
  rcases h0.m.2 with⟨_,h0⟩ | ⟨g,cap,cur,hv,_⟩
  ·omega
  ·simp only [Value.slice.injEq] at hv;exact⟨g,hv.1⟩
 obtain⟨c,_,hpm,hpb⟩:=h0.cm.at j hj;have hel:M[j].q.es.length≤1000:=by
  have hgm:=hG.m M[j].q (List.mem_map.2 ⟨M[j],List.getElem_mem hj,rfl⟩);obtain⟨_,_,_,_,_,_,a7⟩:=zt_ hgm;rcases xd_ a7 with h | h | h | h <;>rw [h] at a7
  ·rw [(vk_ a7).2.1];simp
  ·rw [(vj_ a7).2.2.1];simp
  ·have:=(xe_ a7).2.1;have:=(xe_ a7).1.1;omega
  ·rw [(xR_ a7).2.2.1];simp
 obtain⟨hgl,c0,c1,c2,c3,c4,c5,c6,c7,c8⟩:=xD_ h0.m j hj rfl;obtain⟨xo,HXO⟩:∃xo,Hid (M[j]=xo):=⟨M[j],(rfl:M[j]=M[j])⟩;rw [HXO.out] at c0 c1 c2 c3 c4 c5 c6 c7 c8 hpm hel;have V:=Box.new W0 xo 80;have hBA:=zb_ W0 (.cells xo 80);go_upto_region 4 with fail;obtain⟨W1,hW1⟩:∃W,W=W0.alloc (.cells xo 80):=⟨_,rfl⟩;rw [←hW1] at V hBA ⊢;have hs2:W0.heap.size≤W1.heap.size:=hBA.size;clear hW1 c0 c1 c2 c3 c4 c5 c6 c7 c8 hgl yl y0 y1 y2 y3 y4 xl x0 x1 x2;replace X:=X.below hBA;replace Y:=Y.below hBA;replace Z:=Z.below hBA;replace hT0:=hT0.below hBA;replace h0:=h0.below hBA;replace hB:=za_ hB hBA;have hpm1:PM W1 c xo:=zd_ hpm hBA;clear hBA hpm;obtain⟨yl,y0,y1,y2,y3,y4⟩:=Y.c5;obtain⟨xl,x0,x1,x2⟩:=X.c3;by_cases hM2:M.length=60
 ·have HBF:Hid (stB (N.map Nv.n) (M.map Mv.q) ⟨4,no,(j:Int),mn,d⟩=false):=by show _=_;rw [HB.out,hcb.out,hP];simp [hM2]
  have hM3:(M.length:Int)=60:=by omega
  have hm3:((M.length:Int)==60)=true:=by simp [hM3]
  clear HB hcb hP hM2 h0 hM3 hpm1;obtain⟨W5,hW5,hC5,Z5⟩:=zi_ W1 Z (.slice na N.length nc) (.slice (some ⟨g,0,none⟩) M.length mc) (.slice ya L.length yc);have hBF:Hid (Chg (fun b=>lo≤b∧b<hi) w W5):=Chg.of_below (hB.trans (hC5.b1 (B:=w.heap.size) (by have:=hB.size;omega) (by omega)));have HF:Hid (stB (N.map Nv.n) (M.map Mv.q) ⟨4,no,(j:Int),mn,d⟩=false):=HBF.out;clear hC5;obtain⟨zl,z0,z1,z2,f0,f1,f2⟩:=Z.c3f;clear Z;obtain⟨tl,t0,t1,t2⟩:=Z5.c3;clear Z5;unfold put3 at*;go_wp2;rw [←hW5];exact bodyPost_ret (v:= .tuple #[.agg #[.slice na N.length nc,.slice (some ⟨g,0,none⟩) M.length mc,.slice ya L.length yc],false]) (by simp [results,Tryz.results90,go_sem,t0,t1,t2]) rfl ⟨.inr ⟨HF.out,_,_,_,_,_,_,_,_,_,rfl⟩,hBF.out⟩
 have HOK:Hid (stB (N.map Nv.n) (M.map Mv.q) ⟨4,no,(j:Int),mn,d⟩=true):=by show _=_;rw [HB.out,hcb.out,hP];simp;omega
 have hm3:((M.length:Int)==60)=false:=by simp;omega
 have hm4:¬(M.length:Int)=60:=by omega
 clear HB hcb hP hM2;have hKN:Hid (stN (N.map Nv.n) (M.map Mv.q) ⟨4,no,(j:Int),mn,d⟩=N.map Nv.n):=by
  show _=_;simp [stN]
 have hKM:Hid (stM (N.map Nv.n) (M.map Mv.q) ⟨4,no,(j:Int),mn,d⟩=xh_ (M.map Mv.q) [M[j].q]):=by
  show _=_;simp only [stM,xm_ hj];simp
 have hKL:Hid (stL (N.map Nv.n) (M.map Mv.q) L ⟨4,no,(j:Int),mn,d⟩=L):=by
  show _=_;simp [stL]
 obtain⟨vvl,v0,v1,v2,v3,v4,v5,v6,v7,v8⟩:=V.e9;have hBA:=zb_ W1 (.cells xo 80);have hr:(W1.alloc (.cells xo 80)).ownsRow W1.heap.size 80 9 (.slice (some ⟨W1.heap.size,0,none⟩) 1 1) 1 (zo_ [xo]):=World.ownsRow_lit W1 xo 1 (Nat.le_refl _) (by simp [maxLen]) (by simp);replace Z:=Z.below hBA;replace hT0:=hT0.below hBA;have h1:=h0.below hBA;replace hB:=za_ hB hBA;have hpm2:PM _ c xo:=zd_ hpm1 hBA;have hs3:=hBA.size;clear hBA h0 hpm1;go_wp2_with fail;obtain⟨W2,hW2⟩:∃W,W=W1.alloc (.cells xo 80):=⟨_,rfl⟩;rw [←hW2] at hr Z hT0 h1 hB hpm2 hs3 ⊢;clear hW2 vvl v0 v1 v2 v3 v4 v5 v6 v7 v8 V X Y yl y0 y1 y2 y3 y4 xl x0 x1 x2;refine (yY_ lo hi _ _ _ N M L (some ⟨W1.heap.size,0,none⟩) 1 [xo] W1.heap.size W2 h1 hr (fun b h1 h2=>by have:=HBL.out b (.inr (.inl h2));simp only [Value.ownBlock,Option.some.injEq] at h1;omega) (by omega) (fun i hi'=>by
  obtain rfl:i=0:=by simpa using hi'
  exact⟨⟨_,hpm2⟩,hel⟩) hM1 (by simp)).mono ?_
 rintro e w6 ⟨u,P,rfl,h6,hPq,hc6⟩;have hz6:=hc6.size;have HP:Hid (P.map Mv.q=_):=hPq;clear hPq;replace Z:=hc6.box Z (by intro q;have:=HBL.out _ (.inr (.inl q));omega);replace hT0:=hT0.chg hc6 (by intro q;have:=HBL.out _ (.inr (.inl q));omega);have HB6:Hid (Chg (fun b=>lo≤b∧b<hi) w w6):=(Chg.of_below hB).nextC hc6 (fun b q=> .inl (HBL.out b (.inr (.inl q))));obtain⟨MA,HMA⟩:∃MA,Hid (MA=M++P):=⟨M++P,(rfl:_=_)⟩;rw [←HMA.out] at h6;obtain⟨um,umc,rfl⟩:=h6.shapes.2.1;clear h1 hr hpm2 hc6 hB hel;obtain⟨W5,hW5,hC5,Z5⟩:=zi_ w6 Z (.slice na N.length nc) (.slice um MA.length umc) (.slice ya L.length yc);have hz5:=hC5.size;have hFF:Hid (OwnC W5 lo W5.heap.size (.slice na N.length nc) (.slice um MA.length umc) (.slice ya L.length yc) N MA L):=(h6.keep hT0 hC5).hiN (by omega);clear h6;have hBF:Hid (Chg (fun b=>lo≤b∧b<hi) w W5):=HB6.out.nextC hC5 (fun b hb=> .inr (by have hb:b=w.heap.size+1+1:=hb;omega));clear hC5;obtain⟨zl,z0,z1,z2,f0,f1,f2⟩:=Z.c3f;clear Z;obtain⟨tl,t0,t1,t2⟩:=Z5.c3;clear Z5;unfold put3 at*;go_wp2;rw [←hW5];exact bodyPost_ret (v:= .tuple #[.agg #[.slice na N.length nc,.slice um MA.length umc,.slice ya L.length yc],true]) (by simp [results,Tryz.results90,go_sem,t0,t1,t2]) rfl ⟨.inl ⟨HOK.out,_,_,_,_,_,rfl,by rw [hKL.out];exact hFF.out,by rw [hKN.out],by rw [HMA.out,hKM.out,List.map_append,HP.out,List.map_singleton,HXO.out];unfold xh_;rw [List.length_map]⟩,hBF.out⟩
theorem ui_ (p lo hi:Nat) (vn vm vl:Value) (N:List Nv) (M:List Mv) (L:List Ld) (ki no k mn:Int) (d:ByteArray) (w:World) (h:OwnC w lo hi vn vm vl N M L) (hh:hi≤w.heap.size) (hG:PG p (N.map Nv.n) (M.map Mv.q) L) (hkm:2≤ki∧ki≤4) (ok:Bool) (N2:List Nd) (M2:List Ms) (L2:List Ld) (KM:∀W:World,OwnC W lo hi vn vm vl N M L→hi≤W.heap.size→Calls Tryz.prog 90 #[.agg #[vn,vm,vl],.agg #[ki,no,k,mn,d]] W fun e w'=>yO_ w' lo ok N2 M2 L2 e∧Chg (fun b=>lo≤b∧b<hi) W w'):
  Calls Tryz.prog 46 #[.agg #[vn,vm,vl],.agg #[ki,no,k,mn,d]] w fun e w'=>yO_ w' lo ok N2 M2 L2 e∧Chg (fun b=>lo≤b∧b<hi) w w':=by
 have hlh:=h.lohi;obtain⟨⟨na,nc,rfl⟩,⟨ma,mc,rfl⟩,ya,yc,rfl⟩:=h.shapes;obtain⟨W0,hW0,hB,X,Y,Z,hz0⟩:=al3 w [.slice na N.length nc,.slice ma M.length mc,.slice ya L.length yc] 30 [ki,no,k,mn,d] 51 z3 30;have hzw:=hB.size;have hT0:TyB W0 (w.heap.size+1+1) 30:=⟨z3,by
  rw [hW0];have:=heap_alloc_new ((w.alloc (.cells #[.slice na N.length nc,.slice ma M.length mc,.slice ya L.length yc] 30)).alloc (.cells #[ki,no,k,mn,d] 51)) (.cells z3 30);simpa using this⟩
 have HBL:=h.hbl;have h0:=h.below hB;have KI:=fun W=>zu_ ki 2 4 W;rw [show inB ki 2 4=true from by simp only [inB,Bool.and_eq_true,decide_eq_true_eq];omega] at KI;clear h hkm HBL;obtain⟨yl,y0,y1,y2,y3,y4⟩:=Y.c5;obtain⟨xl,x0,x1,x2⟩:=X.c3;go_enter Tryz.func46,Tryz.ntmps46;go_upto_region 1 with fail;rw [←hW0];clear hW0;go_wp2_with fail;refine (KI _).mono ?_;rintro e w1 ⟨rfl,hw1⟩;rw [hw1];clear hw1 KI w1;have hhi:hi≤W0.heap.size:=by omega
 go_wp2_with fail;refine (KM W0 h0 hhi).mono ?_;rintro e w2 ⟨hS,hC2⟩;have hS2:=yr_ hS;clear hS;obtain⟨a1,n1,d1,a2,n2,d2,a3,n3,d3,rfl,hS⟩:=hS2;have hz2:=hC2.size;replace Z:=hC2.box Z (by omega);replace hT0:=hT0.chg hC2 (by omega);have HB2:Hid (Chg (fun b=>lo≤b∧b<hi) w w2):=(Chg.of_below hB).nextC hC2 (fun b q=> .inl q);clear KM hC2 h0 hB X Y yl y0 y1 y2 y3 y4 xl x0 x1 x2;obtain⟨W5,hW5,hC5,Z5⟩:=zi_ w2 Z (.slice a1 n1 d1) (.slice a2 n2 d2) (.slice a3 n3 d3);have hz5:=hC5.size;have HR:Hid (yO_ W5 lo ok N2 M2 L2 (.returned (.tuple #[.agg #[.slice a1 n1 d1,.slice a2 n2 d2,.slice a3 n3 d3],ok]))):=by
  cases ok with
  | false=>exact .inr ⟨rfl,_,_,_,_,_,_,_,_,_,rfl⟩
  | true=>
   obtain⟨N',M',q1,q2,q3⟩:=hS rfl;exact .inl ⟨rfl,_,_,_,N',M',rfl,(q1.keep hT0 hC5).hiN (by omega),q2,q3⟩
 have hBF:Hid (Chg (fun b=>lo≤b∧b<hi) w W5):=HB2.out.nextC hC5 (fun b hb=> .inr (by have hb:b=w.heap.size+1+1:=hb;omega));clear hC5 hS;obtain⟨zl,z0,z1,z2,f0,f1,f2⟩:=Z.c3f;clear Z;obtain⟨tl,t0,t1,t2⟩:=Z5.c3;clear Z5;unfold put3 at*;go_simp;go_wp2;rw [←hW5];exact bodyPost_ret (v:= .tuple #[.agg #[.slice a1 n1 d1,.slice a2 n2 d2,.slice a3 n3 d3],ok]) (by simp [results,Tryz.results46,go_sem,t0,t1,t2]) rfl ⟨HR.out,hBF.out⟩
set_option maxHeartbeats 200000
theorem qR_ (p lo hi:Nat) (vn vm vl:Value) (N:List Nv) (M:List Mv) (L:List Ld) (ki no k mn:Int) (d:ByteArray) (w:World) (h:OwnC w lo hi vn vm vl N M L) (hh:hi≤w.heap.size) (hG:PG p (N.map Nv.n) (M.map Mv.q) L) (hd:d.size≤1048576)
  (K2:ki=2∨ki=3→∀W:World,OwnC W lo hi vn vm vl N M L→hi≤W.heap.size→Calls Tryz.prog 90 #[.agg #[vn,vm,vl],.agg #[ki,no,k,mn,d]] W fun e w'=>yO_ w' lo (stB (N.map Nv.n) (M.map Mv.q) ⟨ki,no,k,mn,d⟩) (stN (N.map Nv.n) (M.map Mv.q) ⟨ki,no,k,mn,d⟩) (stM (N.map Nv.n) (M.map Mv.q) ⟨ki,no,k,mn,d⟩) (stL (N.map Nv.n) (M.map Mv.q) L ⟨ki,no,k,mn,d⟩) e∧Chg (fun b=>lo≤b∧b<hi) W w'):
  Calls Tryz.prog 46 #[.agg #[vn,vm,vl],.agg #[ki,no,k,mn,d]] w fun e w'=>yO_ w' lo (stB (N.map Nv.n) (M.map Mv.q) ⟨ki,no,k,mn,d⟩) (stN (N.map Nv.n) (M.map Mv.q) ⟨ki,no,k,mn,d⟩) (stM (N.map Nv.n) (M.map Mv.q) ⟨ki,no,k,mn,d⟩) (stL (N.map Nv.n) (M.map Mv.q) L ⟨ki,no,k,mn,d⟩) e∧Chg (fun b=>lo≤b∧b<hi) w w':=by
 by_cases h1:ki=1
 ·subst h1;exact qV_ p lo hi vn vm vl N M L no k mn d w h hh hG hd
 by_cases h2:ki=2
 ·exact ui_ p lo hi vn vm vl N M L ki no k mn d w h hh hG (by omega) _ _ _ _ (K2 (.inl h2))
 by_cases h3:ki=3
 ·exact ui_ p lo hi vn vm vl N M L ki no k mn d w h hh hG (by omega) _ _ _ _ (K2 (.inr h3))
 by_cases h4:ki=4
 ·subst h4;exact ui_ p lo hi vn vm vl N M L 4 no k mn d w h hh hG (by omega) _ _ _ _ fun W q1 q2=>l12Msg_4 p lo hi vn vm vl N M L no k mn d W q1 q2 hG
 by_cases h5:ki=5
 ·subst h5;exact qU_ p lo hi vn vm vl N M L no k mn d w h hh hG hd
 by_cases h6:ki=6
 ·subst h6;exact qT_ p lo hi vn vm vl N M L no k mn d w h hh hG hd
 by_cases h7:ki=7
 ·subst h7;exact qS_ p lo hi vn vm vl N M L no k mn d w h hh hG hd
 exact qQ_ p lo hi vn vm vl N M L ki no k mn d w h hh hG (by omega)
end Go.Proofs.YtapfhhmimkkhnaaGreat
