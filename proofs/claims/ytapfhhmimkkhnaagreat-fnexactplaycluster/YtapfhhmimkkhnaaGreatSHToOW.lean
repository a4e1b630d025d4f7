/-
  A message handled, the specification's way, whatever the kind.
  The specification's HandleMsg, in one form: a node and messages.
  A step on a cluster of a play, the specification's way.
  A cluster of one's own: the specification's l12Own.
-/
import Derived.Test.YtapfhhmimkkhnaaGreatSH0ToSH2
import Derived.Test.YtapfhhmimkkhnaaGreatSH3
import Derived.Test.YtapfhhmimkkhnaaGreatSH4
import Derived.Test.YtapfhhmimkkhnaaGreatHNToCC2
import Derived.Test.YtapfhhmimkkhnaaGreatLSsToSSa
import Derived.Test.YtapfhhmimkkhnaaGreatSM23
import Derived.Test.YtapfhhmimkkhnaaGreatCC3ToPP
import Derived.Test.YtapfhhmimkkhnaaGreatA4ToKC3
import Derived.Test.YtapfhhmimkkhnaaGreatWNToHM
namespace Go.Proofs.YtapfhhmimkkhnaaGreat
open Go.RowKit Go.Maps
set_option linter.unusedVariables false
set_option maxRecDepth 100000
theorem specHM_any (ki:Int) (k p:Nat) (te vo co ro:Int) (la:Option Addr) (lc:Nat) (va:Option Addr) (vc:Nat) (ma:Option Addr) (mc:Nat) (log:List En) (vs mt:List Int) (f q:Nat) (mte be mco:Int) (ye:Bool) (ea:Option Addr) (ec:Nat) (es:List En) (w:World)
  (hl:ER w (.slice la log.length lc) log) (hv:IL w (.slice va vs.length vc) vs) (hm:IL w (.slice ma mt.length mc) mt) (he:ER w (.slice ea es.length ec) es) (hce:es.length≤ec)
  (sl:Nn (.slice la log.length lc)) (sv:Nn (.slice va vs.length vc)) (sm:Nn (.slice ma mt.length mc))
  (hS:zA_ ⟨k,p,te,vo,co,ro,log,vs,mt⟩) (hO:hmOk ⟨k,p,te,vo,co,ro,log,vs,mt⟩ ⟨ki,f,k,mte,q,be,mco,ye,es⟩=true) (z:Nd) (hz:z=hmX ⟨k,p,te,vo,co,ro,log,vs,mt⟩ ⟨ki,f,k,mte,q,be,mco,ye,es⟩) (AA:List Ms) (hAA:AA=hmA (hmU ⟨k,p,te,vo,co,ro,log,vs,mt⟩ mte) ⟨ki,f,k,mte,q,be,mco,ye,es⟩):
  Calls Tryz.prog 136 #[.agg #[k,p,te,vo,.slice la log.length lc,co,ro,.slice va vs.length vc,.slice ma mt.length mc],.agg #[ki,f,k,mte,q,be,.slice ea es.length ec,mco,ye]] w fun e w'=>HmA w' w.heap.size z AA true e∧Below w.heap.size w w':=by
 have hO2:=hO;simp only [hmOk,hmP,Bool.and_eq_true,decide_eq_true_eq] at hO2;obtain⟨⟨_,hGM,_⟩,_⟩:=hO2;rcases kind_in (zt_ hGM).2.2.2.2.2.2 with h | h | h | h
 ·dsimp only at h;subst h;exact specHM_1 k p te vo co ro la lc va vc ma mc log vs mt f q mte be mco ye ea ec es w hl hv hm he hce sl sv sm hS hO z hz AA hAA
 ·dsimp only at h;subst h;exact specHM_2 k p te vo co ro la lc va vc ma mc log vs mt f q mte be mco ye ea ec es w hl hv hm he hce sl sv sm hS hO z hz AA hAA
 ·dsimp only at h;subst h;exact specHM_3 k p te vo co ro la lc va vc ma mc log vs mt f q mte be mco ye ea ec es w hl hv hm he hce sl sv sm hS hO z hz AA hAA
 ·dsimp only at h;subst h;exact specHM_4 k p te vo co ro la lc va vc ma mc log vs mt f q mte be mco ye ea ec es w hl hv hm he hce sl sv sm hS hO z hz AA hAA
end Go.Proofs.YtapfhhmimkkhnaaGreat

namespace Go.Proofs.YtapfhhmimkkhnaaGreat
open Go.RowKit Go.Maps
set_option linter.unusedVariables false
set_option maxRecDepth 100000
theorem specHMC (x:Nv) (m:Mv) (p:Nat) (c b2:Nat) (w:World) (hx:PN w c x) (hm:PM w b2 m) (hg:Gd x.n) (hS:zA_ x.n) (hp:x.n.pe=(p:Int)) (hgm:gMs p m.q=true) (hd:m.q.dst=x.n.id) (hok:hmOk x.n m.q=true):
  Calls Tryz.prog 136 #[.agg x,.agg m] w fun e w'=>NodeA w w' true (hmX x.n m.q) (hmA (hmU x.n m.q.te) m.q) e∧Below w.heap.size w w':=by
 obtain⟨⟨id,pe,te,vo,co,ro,log,vs,mt⟩,la,lc,va,vc,ma,mc'⟩:=x;obtain⟨⟨ki,fr,dst,mte,ix,be,mco,ye,es⟩,ea,ec⟩:=m;have hi0:=hg.i0;have hcap:=own_cap hm;have hn:=OwnN.nns hx;obtain⟨a1,a2,a3,a4,a5,a6,a7⟩:=zt_ hgm;dsimp only at hp hd hi0 hok hS a2 a3 a7 hcap ⊢;subst hp;obtain⟨k,rfl⟩:=Int.eq_ofNat_of_zero_le hi0;obtain rfl:dst=(k:Int):=hd;obtain⟨f,rfl⟩:=Int.eq_ofNat_of_zero_le a2.1;have hix:0≤ix:=by
  rcases kind_in a7 with rfl | rfl | rfl | rfl
  ·exact (kind_1 a7).1.1
  ·have:=(kind_2 a7).1;omega
  ·exact (kind_3 a7).1.1
  ·exact (kind_4 a7).1.1
 obtain⟨q,rfl⟩:=Int.eq_ofNat_of_zero_le hix;refine (specHM_any ki k p te vo co ro la lc va vc ma mc' log vs mt f q mte be mco ye ea ec es w (OwnN.er hx) (OwnN.iv hx) (OwnN.im hx) (yd_ hm rfl) hcap hn.1 hn.2.1 hn.2.2 hS hok _ rfl _ rfl).mono ?_;rintro e w' ⟨hA,hB⟩;refine⟨?_,hB⟩;rcases hA with⟨h1,ul,uv,um,ua,rfl,ho,hq⟩ | ⟨h1,rfl⟩
 ·rw [←flatM_bare] at hq;obtain⟨y,hy,rfl,rfl,rfl,hp⟩:=nv_of _ ho;have q:=nodeA_of (w:=w) y hy hp (hmA_es _ _) (Nat.le_trans (hmA_len _ _) (by omega)) hq;rw [hy] at q ⊢;exact q
 ·cases h1
end Go.Proofs.YtapfhhmimkkhnaaGreat

namespace Go.Proofs.YtapfhhmimkkhnaaGreat
open Go.RowKit Go.Maps
set_option linter.unusedVariables false
set_option maxRecDepth 100000
theorem PF.handles {p:Nat} {c:PS} (h:PF p c) (k:Int) (hk:isP k c.m.length=true):hmOk (atN c.n (atM c.m k).dst) (atM c.m k)=true:=by
 obtain⟨y,hS⟩:=h.f.to;obtain⟨hA,hn,hN,hM,hL⟩:=id hS;obtain⟨hk,ek,_⟩:=atM_eq hk;rw [ek];have hgm:=h.g.m _ (List.getElem_mem hk);have hdst:=(zt_ hgm).2.2.1;have hid:isP (c.m[k.toNat]).dst c.n.length=true:=by simp only [isP,Bool.and_eq_true,decide_eq_true_eq];rw [h.g.n];exact hdst
 obtain⟨h2,ea,ei⟩:=atN_eq hid;rw [ea];obtain⟨g1,g2,g3,g4⟩:=h.g.g _ h2;obtain⟨y',_,_,q⟩:=Went.msg hA (hN _ h2) g1 g2 g3 (hM _ (List.getElem_mem hk)) hgm (by rw [g2];exact ei.symm);exact q
theorem l12Step_any (p lo hi:Nat) (vn vm vl:Value) (N:List Nv) (M:List Mv) (L:List Ld) (ki no k mn:Int) (d:ByteArray) (w:World) (h:OwnC w lo hi vn vm vl N M L) (hh:hi≤w.heap.size) (hG:PF p ⟨N.map Nv.n,M.map Mv.q,L⟩) (hd:d.size≤1048576):
  Calls Tryz.prog 46 #[.agg #[vn,vm,vl],.agg #[ki,no,k,mn,d]] w fun e w'=>StepA w' lo (stB (N.map Nv.n) (M.map Mv.q) ⟨ki,no,k,mn,d⟩) (stN (N.map Nv.n) (M.map Mv.q) ⟨ki,no,k,mn,d⟩) (stM (N.map Nv.n) (M.map Mv.q) ⟨ki,no,k,mn,d⟩) (stL (N.map Nv.n) (M.map Mv.q) L ⟨ki,no,k,mn,d⟩) e∧Chg (fun b=>lo≤b∧b<hi) w w':=by
 refine l12Step_H p lo hi vn vm vl N M L ki no k mn d w h hh hG.g hd (fun h2 W q1 q2=> ?_);refine l12Msg_23 p lo hi vn vm vl N M L ki no k mn d W q1 q2 hG.g h2 (fun _ q=>hG.handles k (by rw [List.length_map];exact q)) (fun i hi=> ?_) (fun x m c b2 W hx hm hg hS hp hgm hd hok=>specHMC x m p c b2 W hx hm hg hS hp hgm hd hok);have:=(hG.g.g i (by rw [List.length_map];exact hi)).2.2.2;rw [List.getElem_map] at this;exact this
end Go.Proofs.YtapfhhmimkkhnaaGreat

namespace Go.Proofs.YtapfhhmimkkhnaaGreat
open Go.RowKit Go.Maps
set_option maxHeartbeats 16000000
set_option linter.unusedVariables false
set_option maxRecDepth 100000
theorem l12Own_any (lo hi:Nat) (vn vm vl:Value) (N:List Nv) (M:List Mv) (L:List Ld) (w:World) (h:OwnC w lo hi vn vm vl N M L) (hs:CS N M L):
  Calls Tryz.prog 47 #[.agg #[vn,vm,vl]] w fun e w'=>CopyA w w' N M L e∧Below w.heap.size w w':=by
 obtain⟨⟨na,nc,rfl⟩,⟨ma,mc,rfl⟩,ya,yc,rfl⟩:=h.shapes;obtain⟨W0,hW0,hB,X,Y,hz0⟩:=al2 w [.slice na N.length nc,.slice ma M.length mc,.slice ya L.length yc] 30 z3 30;have hN:=fun W (q:Below w.heap.size w W)=>zd_ h.n q;have hM:=fun W (q:Below w.heap.size w W)=>zd_ h.m q;have hL:=fun W (q:Below w.heap.size w W)=>zd_ h.l q;have KN:=fun W (q:Below w.heap.size w W) i (hi:i<N.length)=>(by
  obtain⟨c,_,hp,_⟩:=h.cn.at i hi;have hp2:=OwnN.below hp q;have hq:=hs.ne i hi;obtain⟨s1,s2,s3⟩:=OwnN.nns hp2;exact ym_ N[i].n.id N[i].n.pe N[i].n.te N[i].n.vo N[i].n.co N[i].n.ro _ _ _ N[i].n.log N[i].n.vs N[i].n.mt W hp2.er hp2.iv hp2.im s1 s2 s3 hq.1 hq.2.1 hq.2.2:
  Calls Tryz.prog 97 #[.agg #[.int .i64 N[i].n.id,.int .i64 N[i].n.pe,.int .i64 N[i].n.te,.int .i64 N[i].n.vo,.slice N[i].la N[i].n.log.length N[i].lc,.int .i64 N[i].n.co,.int .i64 N[i].n.ro,.slice N[i].va N[i].n.vs.length N[i].vc,.slice N[i].ma N[i].n.mt.length N[i].mc]] W fun e w'=>∃ul uv um,e= .returned (.agg #[.int .i64 N[i].n.id,.int .i64 N[i].n.pe,.int .i64 N[i].n.te,.int .i64 N[i].n.vo,ul,.int .i64 N[i].n.co,.int .i64 N[i].n.ro,uv,um])∧OwnN w' W.heap.size ul uv um N[i].n.log N[i].n.vs N[i].n.mt∧Below W.heap.size W w')
 have KM:=fun W (q:Below w.heap.size w W) i (hi:i<M.length)=>(by
  obtain⟨c,_,hp,_⟩:=h.cm.at i hi;exact (yd_ (zd_ hp q) rfl:ER W (.slice M[i].ea M[i].q.es.length M[i].ec) M[i].q.es):
  ER W (.slice M[i].ea M[i].q.es.length M[i].ec) M[i].q.es)
 have hNl:=hs.n;have hMl:=hs.m;have hLl:=hs.l;have hMe:=hs.me;have HLB:Hid (∀b,(.slice ya L.length yc:Value).ownBlock=some b→b<w.heap.size):=fun b hb=>zg_ h.l b hb;clear h hs;obtain⟨xl,x0,x1,x2⟩:=X.c3;go_enter Tryz.func47,Tryz.ntmps47
 go_upto_region 1 with fail
 rw [←hW0];clear hW0;go_wp2;clear xl x0 x1 x2
 go_loopw [3,12] (fun v i wr=>∃(k:Nat) (P:List Nv),i= .int .i64 k∧k≤N.length∧P.length=k∧P.map Nv.n=(N.take k).map Nv.n∧Box wr w.heap.size [.slice na N.length nc,.slice ma M.length mc,.slice ya L.length yc]∧Box wr (w.heap.size+1) z3∧wr.ownsRow W0.heap.size 42 9 v k (zD_ P)∧zp_ PN BN wr W0.heap.size wr.heap.size P∧Below w.heap.size w wr∧W0.heap.size≤wr.heap.size) (fun _ i _=>N.length-(intOf i).toNat)
 case atStart=>exact⟨0,[],rfl,Nat.zero_le _,rfl,rfl,X,Y,World.ownsRow_nil _ _ _ _,zp_.nil (Nat.le_refl _),hB,Nat.le_refl _⟩
 case round=>
  clear X Y hB;obtain⟨k,P,rfl,hk,hp,HP,X,Y,hown,hch,hB,hw0⟩:=hrel;have HPm:Hid (P.map Nv.n=(N.take k).map Nv.n):=HP;clear HP;obtain⟨va,vc,rfl⟩:=ze_ hown;have hzr:w.heap.size+1<wr.heap.size:=Y.1;by_cases hlt:k<N.length
  ·obtain⟨g,rfl⟩:∃g,na=some ⟨g,0,none⟩:=by
    have h0:=hN wr hB;rcases h0.2 with⟨_,h0⟩ | ⟨g,cap,cur,hv,_⟩
    ·omega
    ·simp only [Value.slice.injEq] at hv;exact⟨g,hv.1⟩
   obtain⟨hgl,c0,c1,c2,c3,c4,c5,c6,c7,c8⟩:=zV_ (hN wr hB) k hlt rfl;have KN2:=fun W q=>KN W q k hlt;obtain⟨y,HY⟩:∃y,Hid (N[k]=y):=⟨N[k],(rfl:N[k]=N[k])⟩;rw [HY.out] at c0 c1 c2 c3 c4 c5 c6 c7 c8;simp only [HY.out] at KN2;clear hN hM hL KN KM hMe;have hBA:=zb_ wr (.cells y 42);have T:=Box.new wr y 42;replace X:=X.below hBA;replace Y:=Y.below hBA;have o1:=zd_ hown hBA;have c1':=hch.belowN hBA;have hBa:=za_ hB hBA;have hza:(wr.alloc (.cells y 42)).heap.size=wr.heap.size+1:=by simp
   clear hown hch hB hBA
   go_upto_region 5 with fail
   obtain⟨Wa,hWa⟩:∃W,W=wr.alloc (.cells y 42):=⟨_,rfl⟩;rw [←hWa] at T X Y o1 c1' hBa hza ⊢;clear hWa hgl c0 c1 c2 c3 c4 c5 c6 c7 c8;obtain⟨tl,t0,t1,t2,t3,t4,t5,t6,t7,t8⟩:=T.e9
   go_wp2_with fail
   refine (KN2 Wa hBa).mono ?_;rintro e w5 ⟨u1,u2,u3,rfl,ox,hb5⟩;obtain⟨⟨xa,xc,rfl⟩,⟨xb,xd,rfl⟩,xe,xf,rfl⟩:=ox.shapes;replace X:=X.below hb5;replace Y:=Y.below hb5;replace o1:=zd_ o1 hb5;replace c1':=c1'.belowN hb5;replace hBa:=za_ hBa hb5;have hz5:=hb5.size;have hpx:PN w5 Wa.heap.size ⟨y.n,xa,xc,xb,xd,xe,xf⟩:=ox;clear KN2 hb5 ox T tl t0 t1 t2 t3 t4 t5 t6 t7 t8;have hBA:=zb_ w5 (.cells #[y.n.id,y.n.pe,y.n.te,y.n.vo,.slice xa y.n.log.length xc,y.n.co,y.n.ro,.slice xb y.n.vs.length xd,.slice xe y.n.mt.length xf] 42);have B6:=Box.new w5 #[y.n.id,y.n.pe,y.n.te,y.n.vo,.slice xa y.n.log.length xc,y.n.co,y.n.ro,.slice xb y.n.vs.length xd,.slice xe y.n.mt.length xf] 42;replace X:=X.below hBA;replace Y:=Y.below hBA;replace o1:=zd_ o1 hBA;replace c1':=c1'.belowN hBA;replace hBa:=za_ hBa hBA;replace hpx:PN _ Wa.heap.size ⟨y.n,xa,xc,xb,xd,xe,xf⟩:=OwnN.below hpx hBA;have hz6:(w5.alloc (.cells #[y.n.id,y.n.pe,y.n.te,y.n.vo,.slice xa y.n.log.length xc,y.n.co,y.n.ro,.slice xb y.n.vs.length xd,.slice xe y.n.mt.length xf] 42)).heap.size=w5.heap.size+1:=by simp
   have hhx:=PN.in hpx;clear hBA
   go_wp2_with (at_builtin;refine zz_.go ?_)
   unfold zz_;refine wpList_app_42 _ rfl _ _ rfl rfl W0.heap.size _ k (zD_ P) rfl o1 _ 1 (zD_ [(⟨y.n,xa,xc,xb,xd,xe,xf⟩:Nv)]) rfl (rowIn_box B6 (by rfl)) (flatN_one _) (by omega) (by omega) ?_;intro v' w7 o7 hgr hat;rw [←flatN_append] at o7;have hC7:=zM_ hgr;have hz7:=hC7.size;have gl:=zh_ o1;replace X:=hC7.box X (by intro q;have:=gl _ q;omega);replace Y:=hC7.box Y (by intro q;have:=gl _ q;omega);have c6:=((c1'.hi (show wr.heap.size≤Wa.heap.size from by omega)).push hpx (fun b hb=>hhx b hb) (by omega));have c7:=(c6.mapI fun i hi c hp hb=>OwnN.chg hp hC7 (fun b h1 h2=>PN.row_ne hp o1 (by decide) (by decide) b h1 h2)).hi hz7;have hB7:=hBa.trans (hC7.below (B:=w.heap.size) (by omega) (fun b hb=>by have:=gl b hb;omega));obtain⟨za,zc,rfl⟩:=ze_ o7;have HQ:Hid ((P++ [(⟨y.n,xa,xc,xb,xd,xe,xf⟩:Nv)]).map Nv.n=(N.take (k+1)).map Nv.n):=map_more Nv.n P N k hlt HPm.out (⟨y.n,xa,xc,xb,xd,xe,xf⟩:Nv) (by rw [HY.out]);clear hgr hat hC7 o1 c1' c6 hBa hpx hhx B6 gl HPm HY;go_wp2;go_roundw
   case rel=>exact⟨k+1,P++ [⟨y.n,xa,xc,xb,xd,xe,xf⟩],by go_num,by omega,by simp [hp],HQ.out,X,Y,o7,c7,hB7,by omega⟩
   case measure=>simp [intOf];omega
  ·obtain rfl:k=N.length:=by omega
   have hPn:Hid (P.map Nv.n=N.map Nv.n):=by show _=_;rw [HPm.out,List.take_length]
   have hPl:P.length=N.length:=hp;clear KN hN hk hlt HPm hp;obtain⟨PX,hPX⟩:∃PX,P=PX:=⟨_,rfl⟩;rw [hPX] at hown hch hPl hPn;clear hPX;have HON:Hid (wr.ownsRow W0.heap.size 42 9 (.slice va N.length vc) N.length (zD_ PX)):=hown;have HCH:Hid (zp_ PN BN wr W0.heap.size wr.heap.size PX):=hch;clear hown hch;obtain⟨w4,hw4⟩:∃w4,w4=wr:=⟨_,rfl⟩;rw [←hw4] at X Y hB hw0 hzr HON HCH ⊢;clear hw4;obtain⟨xl,x0,x1,x2⟩:=X.c3;go_wp2;clear xl x0 x1 x2
   go_loopw [6,25] (fun v i wr=>∃(k:Nat) (P:List Mv),i= .int .i64 k∧k≤M.length∧P.length=k∧P.map Mv.q=(M.take k).map Mv.q∧wr.ownsRow w4.heap.size 80 9 v k (zo_ P)∧zp_ PM BM wr w4.heap.size wr.heap.size P∧Below w4.heap.size w4 wr) (fun _ i _=>M.length-(intOf i).toNat)
   case atStart=>exact⟨0,[],rfl,Nat.zero_le _,rfl,rfl,World.ownsRow_nil _ _ _ _,zp_.nil (Nat.le_refl _),Below.refl _ _⟩
   case round=>
    obtain⟨k,P,rfl,hk,hp,HP,hown,hch,hb4⟩:=hrel;have HPm:Hid (P.map Mv.q=(M.take k).map Mv.q):=HP;clear HP;obtain⟨qa,qc,rfl⟩:=ze_ hown;have hzk:=hb4.size;have hBk:=za_ hB hb4;by_cases hlt:k<M.length
    ·obtain⟨g,rfl⟩:∃g,ma=some ⟨g,0,none⟩:=by
      have h0:=hM wr hBk;rcases h0.2 with⟨_,h0⟩ | ⟨g,cap,cur,hv,_⟩
      ·omega
      ·simp only [Value.slice.injEq] at hv;exact⟨g,hv.1⟩
     obtain⟨hgl,c0,c1,c2,c3,c4,c5,c6,c7,c8⟩:=ownM_at (hM wr hBk) k hlt rfl;have KE:=fun W q=>KM W q k hlt;have hel:=hMe k hlt;obtain⟨y,HY⟩:∃y,Hid (M[k]=y):=⟨M[k],(rfl:M[k]=M[k])⟩;rw [HY.out] at c0 c1 c2 c3 c4 c5 c6 c7 c8 hel;simp only [HY.out] at KE;clear hM hL KM hMe;have hBA:=zb_ wr (.cells y 80);have T:=Box.new wr y 80;have o1:=zd_ hown hBA;have c1':=hch.belowM hBA;have hb4a:=za_ hb4 hBA;have hza:(wr.alloc (.cells y 80)).heap.size=wr.heap.size+1:=by simp
     have hql:=zg_ hown;clear hown hch hb4 hBA
     go_upto_region 11 with fail
     obtain⟨Wa,hWa⟩:∃W,W=wr.alloc (.cells y 80):=⟨_,rfl⟩;rw [←hWa] at T o1 c1' hb4a hza ⊢;clear hWa hgl c0 c1 c2 c3 c4 c5 c6 c7 c8;obtain⟨tl,t0,t1,t2,t3,t4,t5,t6,t7,t8⟩:=T.e9;have HZA:Hid (Wa.heap.size=wr.heap.size+1):=hza;have gq:∀b,(Value.slice qa k qc).ownBlock=some b→w4.heap.size≤b∧b<wr.heap.size:=fun b hb=>⟨zh_ o1 b hb,hql b hb⟩;clear hza hql;have oe:(Wa.alloc (.cells #[] 44)).ownsRow Wa.heap.size 44 2 (.slice (some ⟨Wa.heap.size,0,none⟩) 0 0) 0 (zx_ []):=World.ownsRow_lit Wa #[] 0 (Nat.le_refl _) (by simp [maxLen]) (by simp);have hBE:=zb_ Wa (.cells #[] 44);replace T:=T.below hBE;have o2:=zd_ o1 hBE;have c2':=c1'.belowM hBE;have hb4b:=za_ hb4a hBE;have hE:=KE _ (za_ hB hb4b);clear o1 c1' hb4a hBE KE
     go_wp2_with (at_builtin;refine zz_.go ?_)
     unfold zz_;refine zG_ _ rfl _ _ rfl rfl Wa.heap.size _ 0 [] rfl oe _ y.q.es rfl hE (by omega) (by simp) ?_;intro ve w6 o6 hgr;have hb6:Below Wa.heap.size (Wa.alloc (.cells #[] 44)) w6:=(Below.refl _ _).grown hgr (by simp) (fun q hq=>by cases hq;exact Nat.le_refl _);simp only [Nat.zero_add,List.nil_append] at o6;obtain⟨xa,xc,rfl⟩:=ze_ o6;have hza:=HZA.out;have hzE:(Wa.alloc (.cells #[] 44)).heap.size=Wa.heap.size+1:=by simp
     have hz6:=hb6.size;replace T:=T.under hb6 (by omega);have hS6:Chg (fun b=>Wa.heap.size≤b) (Wa.alloc (.cells #[] 44)) w6:=⟨hb6.os,hb6.tape,hb6.output,hb6.size,fun q hq hs=>hb6.block q (by omega)⟩;have o3:=hS6.owns o2 (fun b hb hh=>by have:=gq b hb;omega);have c3':=c2'.chgM hS6 (fun b hb=> .inr (by omega));have hb4c:=hb4b.trans (hS6.below (B:=w4.heap.size) (by omega) (fun b hb=>by omega));have hxb:=zh_ o6;obtain⟨tl,t0,t1,t2,t3,t4,t5,t6,t7,t8⟩:=T.e9;have f6:=T.2.2 6;obtain⟨W7,hW7⟩:∃W,W=w6.setCell ⟨wr.heap.size,6,none⟩ (.slice xa y.q.es.length xc):=⟨_,rfl⟩;have hC7:Chg (fun b=>b=wr.heap.size) w6 W7:=by rw [hW7];exact Chg.setCell (S:=fun b=>b=wr.heap.size) (Chg.refl _ _) rfl _
     have T7:Box W7 wr.heap.size [y.q.ki,y.q.fr,y.q.dst,y.q.te,y.q.ix,y.q.be,.slice xa y.q.es.length xc,y.q.co,y.q.ye]:=by rw [hW7];exact T.set 6 _ (by simp)
     have o4:=hC7.owns o3 (fun b hb hh=>by have:=gq b hb;omega);have c4':=c3'.chgM hC7 (fun b hb=> .inr (by omega));have hpx:PM W7 Wa.heap.size ⟨y.q,xa,xc⟩:=hC7.owns o6 (fun b hb hh=>by have:=hxb b hb;omega);have hb4d:=hb4c.trans (hC7.below (B:=w4.heap.size) (by omega) (fun b hb=>by omega));have hz7:=hC7.size;clear hgr hb6 hS6 o2 c2' hb4b o3 c3' hb4c o6 hxb oe hE hza
     go_upto_region 12 with fail
     rw [←hW7];clear hW7 hC7 T tl t0 t1 t2 t3 t4 t5 t6 t7 t8 f6;obtain⟨tl,t0,t1,t2,t3,t4,t5,t6,t7,t8⟩:=T7.e9;have hBA:=zb_ W7 (.cells #[y.q.ki,y.q.fr,y.q.dst,y.q.te,y.q.ix,y.q.be,.slice xa y.q.es.length xc,y.q.co,y.q.ye] 80);have B8:=Box.new W7 #[y.q.ki,y.q.fr,y.q.dst,y.q.te,y.q.ix,y.q.be,.slice xa y.q.es.length xc,y.q.co,y.q.ye] 80;have o5:=zd_ o4 hBA;have c5':=c4'.belowM hBA;have hb4e:=za_ hb4d hBA;replace hpx:PM _ Wa.heap.size ⟨y.q,xa,xc⟩:=zd_ hpx hBA;have hhx:=PM.in hpx;have hz8:(W7.alloc (.cells #[y.q.ki,y.q.fr,y.q.dst,y.q.te,y.q.ix,y.q.be,.slice xa y.q.es.length xc,y.q.co,y.q.ye] 80)).heap.size=W7.heap.size+1:=by simp
     clear o4 c4' hb4d hBA
     go_wp2_with (at_builtin;refine zz_.go ?_)
     unfold zz_;have hza:=HZA.out;refine wpList_app_80 _ rfl _ _ rfl rfl w4.heap.size _ k (zo_ P) rfl o5 _ 1 (zo_ [(⟨y.q,xa,xc⟩:Mv)]) rfl (rowIn_box B8 (by rfl)) (zT_ _) (by omega) (by omega) ?_;intro v' w9 o9 hgr hat;rw [←flatM_append] at o9;have hC9:=zM_ hgr;have hz9:=hC9.size;have c6:=((c5'.hi (show wr.heap.size≤Wa.heap.size from by omega)).push hpx (fun b hb=>hhx b hb) (by omega));have c7:=(c6.mapI fun i hi c hp hb=>hC9.owns hp (fun b h1 h2=>PM.row_ne hp o5 (by decide) b h1 h2)).hi hz9;have hb4f:=hb4e.trans (hC9.below (B:=w4.heap.size) (by omega) (fun b hb=>(gq b hb).1));obtain⟨za,zc,rfl⟩:=ze_ o9;have HQ:Hid ((P++ [(⟨y.q,xa,xc⟩:Mv)]).map Mv.q=(M.take (k+1)).map Mv.q):=map_more Mv.q P M k hlt HPm.out (⟨y.q,xa,xc⟩:Mv) (by rw [HY.out]);clear hgr hat hC9 o5 c5' c6 hb4e hpx hhx B8 gq HPm HY tl t0 t1 t2 t3 t4 t5 t6 t7 t8 T7 hza HZA;go_wp2;go_roundw
     case rel=>exact⟨k+1,P++ [⟨y.q,xa,xc⟩],by go_num,by omega,by simp [hp],HQ.out,o9,c7,hb4f⟩
     case measure=>simp [intOf];omega
    ·obtain rfl:k=M.length:=by omega
     have hPm:Hid (P.map Mv.q=M.map Mv.q):=by show _=_;rw [HPm.out,List.take_length]
     have hPl2:P.length=M.length:=hp;clear KM hM hMe hk hlt HPm hp;have hLw:=hL wr hBk;replace X:=X.below hb4;replace Y:=Y.below hb4;replace HON:Hid (wr.ownsRow W0.heap.size 42 9 (.slice va N.length vc) N.length (zD_ PX)):=zd_ HON.out hb4;replace HCH:Hid (zp_ PN BN wr W0.heap.size w4.heap.size PX):=HCH.out.belowN hb4;clear hb4 hL hB;obtain⟨xl,x0,x1,x2,f0,f1,f2⟩:=X.c3f;obtain⟨W5,hW5⟩:∃W,W=wr.setCell ⟨w.heap.size,0,none⟩ (.slice va N.length vc):=⟨_,rfl⟩;have hC5:Chg (fun b=>b=w.heap.size) wr W5:=by rw [hW5];exact Chg.setCell (S:=fun b=>b=w.heap.size) (Chg.refl _ _) rfl _
     have X5:Box W5 w.heap.size [.slice va N.length vc,.slice ma M.length mc,.slice ya L.length yc]:=by rw [hW5];exact X.set 0 _ (by simp)
     go_upto_region 15 with fail
     rw [←hW5];clear hW5 xl x0 x1 x2 f0 f1 f2 X;obtain⟨xl,x0,x1,x2,f0,f1,f2⟩:=X5.c3f;obtain⟨W6,hW6⟩:∃W,W=W5.setCell ⟨w.heap.size,1,none⟩ (.slice qa M.length qc):=⟨_,rfl⟩;have hC6:Chg (fun b=>b=w.heap.size) W5 W6:=by rw [hW6];exact Chg.setCell (S:=fun b=>b=w.heap.size) (Chg.refl _ _) rfl _
     have X6:Box W6 w.heap.size [.slice va N.length vc,.slice qa M.length qc,.slice ya L.length yc]:=by rw [hW6];exact X5.set 1 _ (by simp)
     go_upto_region 16 with fail
     rw [←hW6];clear hW6 xl x0 x1 x2 f0 f1 f2 X5;have hC56:=hC5.trans hC6;have hz6:=hC56.size;have Y6:=hC56.box Y (by omega);have n6:=hC56.owns HON.out (fun b hb hh=>by have:=zh_ HON.out b hb;omega);have m6:=hC56.owns hown (fun b hb hh=>by have:=zh_ hown b hb;omega);have l6:=hC56.owns hLw (fun b hb hh=>by have:=HLB.out b hb;omega);have cn6:=HCH.out.chgN hC56 (fun b hb=> .inl (by omega));have cm6:=hch.chgM hC56 (fun b hb=> .inl (by omega));have hB6:=hBk.trans (hC56.below (B:=w.heap.size) (by omega) (fun b hb=>by omega));clear hC5 hC6 hC56 HON hown hLw HCH hch hBk Y;have oe:(W6.alloc (.cells #[] 34)).ownsRow W6.heap.size 34 2 (.slice (some ⟨W6.heap.size,0,none⟩) 0 0) 0 []:=World.ownsRow_lit W6 #[] 0 (Nat.le_refl _) (by simp [maxLen]) (by simp);have hBE:=zb_ W6 (.cells #[] 34);have hzE:(W6.alloc (.cells #[] 34)).heap.size=W6.heap.size+1:=by simp
     obtain⟨xl,x0,x1,x2,f0,f1,f2⟩:=X6.c3f
     go_wp2_with (at_builtin;refine zz_.go ?_)
     unfold zz_;refine wpList_app_34 _ rfl _ _ rfl rfl W6.heap.size _ 0 [] rfl oe _ L.length (yf_ L) rfl ((yk_.own l6).below hBE) (flatL_one _) (by omega) (by omega) ?_;intro vq w8 o8 hgr hat;simp only [Nat.zero_add,List.nil_append] at o8;obtain⟨ul,ulc,rfl⟩:=ze_ o8;have hb8:Below W6.heap.size W6 w8:=hBE.trans ((Below.refl _ _).grown hgr (by omega) (fun q hq=>by cases hq;exact Nat.le_refl _));replace X6:=X6.below hb8;replace Y6:=Y6.below hb8;replace n6:=zd_ n6 hb8;replace m6:=zd_ m6 hb8;replace cn6:=cn6.belowN hb8;replace cm6:=cm6.belowM hb8;replace hB6:=za_ hB6 hb8;have g8:=zh_ o8;have hz8:=hb8.size;clear hgr hat oe hBE hb8 l6 xl x0 x1 x2 f0 f1 f2;obtain⟨xl,x0,x1,x2,f0,f1,f2⟩:=X6.c3f;obtain⟨W9,hW9⟩:∃W,W=w8.setCell ⟨w.heap.size,2,none⟩ (.slice ul L.length ulc):=⟨_,rfl⟩;have hC9:Chg (fun b=>b=w.heap.size) w8 W9:=by rw [hW9];exact Chg.setCell (S:=fun b=>b=w.heap.size) (Chg.refl _ _) rfl _
     have X9:Box W9 w.heap.size [.slice va N.length vc,.slice qa M.length qc,.slice ul L.length ulc]:=by rw [hW9];exact X6.set 2 _ (by simp)
     have Y9:=hC9.box Y6 (by omega)
     go_upto_region 17 with fail
     rw [←hW9];clear hW9 xl x0 x1 x2 f0 f1 f2 X6 Y6;obtain⟨Wz,hWz,hCa,Ya⟩:=zj_ W9 Y9 (.slice va N.length vc) (.slice qa M.length qc) (.slice ul L.length ulc);have hCz:Chg (fun b=>b=w.heap.size∨b=w.heap.size+1) w8 Wz:=(hC9.mono fun b hb=> .inl hb).trans (hCa.mono fun b hb=> .inr hb);have hzz:=hCz.size;have n7:=hCz.owns n6 (fun b hb hh=>by have:=zh_ n6 b hb;omega);have m7:=hCz.owns m6 (fun b hb hh=>by have:=zh_ m6 b hb;omega);have l7:=hCz.owns o8 (fun b hb hh=>by have:=g8 b hb;omega);have cn7:=cn6.chgN hCz (fun b hb=> .inl (by omega));have cm7:=cm6.chgM hCz (fun b hb=> .inl (by omega));have hFF:Hid (OwnC Wz w.heap.size Wz.heap.size (.slice va N.length vc) (.slice qa M.length qc) (.slice ul L.length ulc) PX P L):=
      OwnC.of (mid:=w4.heap.size) (by rw [hPl];exact zf_ n7 (by omega)) (by rw [hPl2];exact zf_ m7 (by omega)) (zf_ l7 (by omega)) (cn7.lo (by omega)) (cm7.hi (by omega)) (fun b hb=>zg_ n7 b hb) (fun b hb=>zg_ m7 b hb) (fun b hb=>zg_ l7 b hb)
     have hBF:=hB6.trans (hCz.below (B:=w.heap.size) (by omega) (fun b hb=>by omega));clear hC9 hCa hCz n6 m6 o8 cn6 cm6 n7 m7 l7 cn7 cm7 hB6;obtain⟨xl,x0,x1,x2⟩:=X9.c3;obtain⟨yl,y0,y1,y2,f0,f1,f2⟩:=Y9.c3f;obtain⟨tl,t0,t1,t2⟩:=Ya.c3;clear X9 Y9 Ya;unfold put3 at*;go_wp2;rw [←hWz];exact bodyPost_ret (v:= .agg #[.slice va N.length vc,.slice qa M.length qc,.slice ul L.length ulc]) (by simp [results,Tryz.results47,go_sem,t0,t1,t2]) rfl ⟨⟨_,_,_,_,_,rfl,hFF.out,hPn.out,hPm.out⟩,hBF⟩
end Go.Proofs.YtapfhhmimkkhnaaGreat
