/-
  A cluster copied: impl's copyCluster.
  What the moves lean on.
  A play, plainly; steps in rows.
-/
import Derived.Test.YtapfhhmimkkhnaaGreatNCToCC2
namespace Go.Proofs.YtapfhhmimkkhnaaGreat
open Go.RowKit Go.Maps
set_option linter.unusedVariables false
set_option maxRecDepth 100000
set_option maxHeartbeats 16000000
def CopyA (w w':World) (N:List Nv) (M:List Mv) (L:List Ld) (e:Ending):Prop:=
 ∃un um ul N' M',e= .returned (.agg #[un,um,ul])∧OwnC w' w.heap.size w'.heap.size un um ul N' M' L∧N'.map Nv.n=N.map Nv.n∧M'.map Mv.q=M.map Mv.q
theorem xL_ (lo hi:Nat) (vn vm vl:Value) (N:List Nv) (M:List Mv) (L:List Ld) (w:World) (h:OwnC w lo hi vn vm vl N M L) (hs:CS N M L):
  Calls Tryz.prog 45 #[.agg #[vn,vm,vl]] w fun e w'=>CopyA w w' N M L e∧Below w.heap.size w w':=by
 obtain⟨⟨na,nc,rfl⟩,⟨ma,mc,rfl⟩,ya,yc,rfl⟩:=h.shapes;obtain⟨W0,hW0,hB,X,Y,hz0⟩:=al2 w [.slice na N.length nc,.slice ma M.length mc,.slice ya L.length yc] 30 z3 30;have K1:=fun W (q:Below w.heap.size w W)=>qq_ (.slice na N.length nc) lo N W (zd_ h.n q) hs.n;have K2:=fun W (q:Below w.heap.size w W)=>qr_ (.slice ma M.length mc) lo M W (zd_ h.m q) hs.m;have K3:=fun W (q:Below w.heap.size w W)=>qs_ (.slice ya L.length yc) lo L W (zd_ h.l q) hs.l;have KN:=fun W (q:Below w.heap.size w W) i (hi:i<N.length)=>(by
  obtain⟨c,_,hp,_⟩:=h.cn.at i hi;have hp2:=OwnN.below hp q;have hq:=hs.ne i hi;obtain⟨s1,s2,s3⟩:=OwnN.nns hp2;exact yK_ N[i].n.id N[i].n.pe N[i].n.te N[i].n.vo N[i].n.co N[i].n.ro _ _ _ N[i].n.log N[i].n.vs N[i].n.mt W hp2.er hp2.iv hp2.im s1 s2 s3 hq.1 hq.2.1 hq.2.2:
  Calls Tryz.prog 86 #[.agg #[.int .i64 N[i].n.id,.int .i64 N[i].n.pe,.int .i64 N[i].n.te,.int .i64 N[i].n.vo,.slice N[i].la N[i].n.log.length N[i].lc,.int .i64 N[i].n.co,.int .i64 N[i].n.ro,.slice N[i].va N[i].n.vs.length N[i].vc,.slice N[i].ma N[i].n.mt.length N[i].mc]] W fun e w'=>∃ul uv um,e= .returned (.agg #[.int .i64 N[i].n.id,.int .i64 N[i].n.pe,.int .i64 N[i].n.te,.int .i64 N[i].n.vo,ul,.int .i64 N[i].n.co,.int .i64 N[i].n.ro,uv,um])∧OwnN w' W.heap.size ul uv um N[i].n.log N[i].n.vs N[i].n.mt∧Below W.heap.size W w')
 have KM:=fun W (q:Below w.heap.size w W) i (hi:i<M.length)=>(by
  obtain⟨c,_,hp,_⟩:=h.cm.at i hi;have hp2:W.ownsRow c 44 2 (.slice M[i].ea M[i].q.es.length M[i].ec) M[i].q.es.length (zF_ M[i].q.es):=zd_ hp q;exact xK_ M[i].q.ki M[i].q.fr M[i].q.dst M[i].q.te M[i].q.ix M[i].q.be M[i].q.co M[i].q.ye M[i].ea M[i].ec M[i].q.es W (yd_ hp2 rfl) (Nn.own hp2) (hs.me i hi):
  Calls Tryz.prog 88 #[.agg #[.int .i64 M[i].q.ki,.int .i64 M[i].q.fr,.int .i64 M[i].q.dst,.int .i64 M[i].q.te,.int .i64 M[i].q.ix,.int .i64 M[i].q.be,.slice M[i].ea M[i].q.es.length M[i].ec,.int .i64 M[i].q.co,.bool M[i].q.ye]] W fun e w'=>∃ua uc,e= .returned (.agg #[.int .i64 M[i].q.ki,.int .i64 M[i].q.fr,.int .i64 M[i].q.dst,.int .i64 M[i].q.te,.int .i64 M[i].q.ix,.int .i64 M[i].q.be,.slice ua M[i].q.es.length uc,.int .i64 M[i].q.co,.bool M[i].q.ye])∧w'.ownsRow W.heap.size 44 2 (.slice ua M[i].q.es.length uc) M[i].q.es.length (zF_ M[i].q.es)∧Below W.heap.size W w')
 have hNl:=hs.n;have hMl:=hs.m;clear h hs;obtain⟨xl,x0,x1,x2,f0,f1,f2⟩:=X.c3f;go_enter Tryz.func45,Tryz.ntmps45;go_upto_region 1 with fail;rw [←hW0];clear hW0;go_wp2_with fail;refine (K1 _ hB).mono ?_;rintro e w1 ⟨u,rfl,o1,hb1⟩;obtain⟨ua,uc,rfl⟩:=ze_ o1;replace X:=X.below hb1;replace Y:=Y.below hb1;replace hB:=za_ hB hb1;have g1:=zg_ o1;have l1:=zh_ o1;have hz1:=hb1.size;clear K1 hb1 xl x0 x1 x2 f0 f1 f2;obtain⟨W2,hW2⟩:∃W,W=w1.setCell ⟨w.heap.size,0,none⟩ (.slice ua N.length uc):=⟨_,rfl⟩;have hC2:Chg (fun b=>b=w.heap.size) w1 W2:=by rw [hW2];exact Chg.setCell (S:=fun b=>b=w.heap.size) (Chg.refl _ _) rfl _
 have X2:Box W2 w.heap.size [.slice ua N.length uc,.slice ma M.length mc,.slice ya L.length yc]:=by rw [hW2];exact X.set 0 _ (by simp)
 have Y2:=hC2.box Y (by omega);have o2:=zf_ (hC2.owns o1 (fun b hb hh=>by have:=g1 b hb;have hh:b=w.heap.size:=hh;omega)) (show w.heap.size≤W0.heap.size from by omega);have hB2:=hB.trans (hC2.b1 (B:=w.heap.size) (by omega) (by omega));have hz2:=hC2.size;obtain⟨xl,x0,x1,x2,f0,f1,f2⟩:=X.c3f;go_upto_region 2 with fail;rw [←hW2];clear hW2 xl x0 x1 x2 f0 f1 f2 X Y o1 hB hC2;obtain⟨h1,hh1⟩:∃h1,h1=W2.heap.size:=⟨_,rfl⟩;have hg1:∀b,(.slice ua N.length uc:Value).ownBlock=some b→w.heap.size+1+1≤b∧b<h1:=fun b hb=>⟨by have:=g1 b hb;omega,by have:=l1 b hb;omega⟩;have hh2:w.heap.size+1+1≤h1:=by omega
 clear g1 l1;obtain⟨xl,x0,x1,x2,f0,f1,f2⟩:=X2.c3f;go_wp2;clear xl x0 x1 x2 f0 f1 f2
 go_loopw [14] (fun i wr=>∃(k:Nat) (P:List Nv),i= .int .i64 k∧k≤N.length∧P.length=k∧P.map Nv.n=(N.take k).map Nv.n∧Box wr w.heap.size [.slice ua N.length uc,.slice ma M.length mc,.slice ya L.length yc]∧Box wr (w.heap.size+1) z3∧wr.ownsRow w.heap.size 42 9 (.slice ua N.length uc) N.length (zI_ (P++N.drop k))∧zr_ PN BN wr h1 wr.heap.size P∧Below w.heap.size w wr) (fun i _=>N.length-(intOf i).toNat)
 case atStart=>exact⟨0,[],rfl,Nat.zero_le _,rfl,rfl,X2,Y2,by simpa using o2,zr_.nil (by omega),hB2⟩
 case round=>
  obtain⟨k,P,rfl,hk,hp,HP,Xr,Yr,hown,hch,hb⟩:=hrel;have HPm:Hid (P.map Nv.n=(N.take k).map Nv.n):=HP;clear X2 Y2 o2 hB2 HP;have hzr:w.heap.size+1<wr.heap.size:=Yr.1;have hhr:h1≤wr.heap.size:=hch.ends;by_cases hlt:k<N.length
  ·obtain⟨ey,HEY⟩:=mid_at P N k hp hlt;have hml:=vx_ P N k hp hk;obtain⟨g,rfl⟩:∃g,ua=some ⟨g,0,none⟩:=by
    rcases hown.2 with⟨_,h0⟩ | ⟨g,cap,cur,hv,_⟩
    ·omega
    ·simp only [Value.slice.injEq] at hv;exact⟨g,hv.1⟩
   have hgg:=hg1 g rfl;have KN2:=fun W q=>KN W q k hlt;obtain⟨hgl,c0,c1,c2,c3,c4,c5,c6,c7,c8⟩:=zR_ hown k ey hml.symm;rw [HEY] at c0 c1 c2 c3 c4 c5 c6 c7 c8;obtain⟨y,HY⟩:∃y,Hid (N[k]=y):=⟨N[k],(rfl:N[k]=N[k])⟩;rw [HY.out] at c0 c1 c2 c3 c4 c5 c6 c7 c8;simp only [HY.out] at KN2;have HO:Hid (wr.ownsRow w.heap.size 42 9 (.slice (some ⟨g,0,none⟩) N.length uc) N.length (zI_ (P++N.drop k))):=hown;clear KN KM K2 K3 HEY ey hml hown;have hBA:=zb_ wr (.cells y 42);have T:=Box.new wr y 42;have Xa:=Xr.below hBA;have Ya:=Yr.below hBA;have ca:=hch.belowN hBA;have hba:=za_ hb hBA;obtain⟨xl,x0,x1,x2,f0,f1,f2⟩:=Xr.c3f;go_upto_region 5 with fail;obtain⟨va,hva⟩:∃W,W=wr.alloc (.cells y 42):=⟨_,rfl⟩;have oa:va.ownsRow w.heap.size 42 9 (.slice (some ⟨g,0,none⟩) N.length uc) N.length (zI_ (P++N.drop k)):=by rw [hva];exact zd_ HO.out hBA
   rw [←hva] at T Xa Ya ca hba ⊢;have hz3:va.heap.size=wr.heap.size+1:=by rw [hva];simp
   clear hva xl x0 x1 x2 f0 f1 f2 c0 c1 c2 c3 c4 c5 c6 c7 c8 hBA HO Xr Yr hch hb hgl;have hD:Below va.heap.size va va.drew:=(Below.refl _ _).drew;replace T:=T.below hD;replace Xa:=Xa.below hD;replace Ya:=Ya.below hD;replace ca:=(ca.belowN hD);replace oa:=zd_ oa hD;replace hba:=za_ hba hD;have hzd:va.drew.heap.size=wr.heap.size+1:=by rw [←hz3];rfl
   clear hD hz3;refine wp_region_held_drew (S:=(fun w'=>Box w' w.heap.size [.slice (some ⟨g,0,none⟩) N.length uc,.slice ma M.length mc,.slice ya L.length yc]∧Box w' wr.heap.size y)) (by kernel_rfl) ⟨Xa,T⟩ (fun zc_=> ?_);generalize va.drew=va at*;refine tkH 0 (.pointer (some ⟨w.heap.size,0,none⟩)) rfl ?_ ?_
   ·intro wx hSw;clear zc_ hSw;go_simp
   simp only [Act.put,sA_,sB_,sC_];refine tkH 1 (.slice (some ⟨g,0,none⟩) N.length uc) rfl ?_ ?_
   ·intro wx hSw;have e:=hSw.1.2.1 0 _ rfl;have e2:=hSw.1.1;clear zc_ hSw;go_simp
   simp only [Act.put,sA_,sB_,sC_];refine tkH 2 (.int .i64 k) rfl ?_ ?_
   ·intro wx hSw;clear zc_ hSw;go_simp
   simp only [Act.put,sA_,sB_,sC_];refine tkH 3 (.agg y) rfl ?_ ?_
   ·intro wx hSw;obtain⟨sl,s0,s1,s2,s3,s4,s5,s6,s7,s8⟩:=hSw.2.e9;clear zc_ hSw;go_simp
   simp only [Act.put,sA_,sB_,sC_];refine rd1 4 rfl (fun K hK=> ?_);clear zc_;go_simp;refine (KN2 va hba).mono ?_;rintro e w5 ⟨u1,u2,u3,rfl,ox,hb5⟩;obtain⟨⟨xa,xc,rfl⟩,⟨xb,xd,rfl⟩,xe,xf,rfl⟩:=ox.shapes;replace T:=T.below hb5;replace Xa:=Xa.below hb5;replace Ya:=Ya.below hb5;replace oa:=zd_ oa hb5;have c5:=ca.belowN hb5;replace hba:=za_ hba hb5;have hz5:=hb5.size;have hpx:PN w5 va.heap.size ⟨y.n,xa,xc,xb,xd,xe,xf⟩:=ox;clear KN2 hb5 ca ox;refine hK.out _ w5 ⟨Xa,T⟩ (fun zc_=> ?_);clear hK K
   try (simp only [Act.put,sA_,sB_,sC_])
   refine tkH 5 (.pointer (some ⟨g,k*9,none⟩)) rfl ?_ ?_
   ·intro wx hSw;clear zc_ hSw;go_simp
   simp only [Act.put,sA_,sB_,sC_];refine rd1 6 rfl (fun K hK=> ?_);clear zc_;have hC6:=xA_ w5 g k ⟨y.n,xa,xc,xb,xd,xe,xf⟩;have o6:=xo_ oa k ⟨y.n,xa,xc,xb,xd,xe,xf⟩;rw [qI_ P N k hp hlt] at o6;obtain⟨W6,hW6⟩:∃W,W=vt_ w5 g k ⟨y.n,xa,xc,xb,xd,xe,xf⟩:=⟨_,rfl⟩;rw [←hW6] at o6 hC6;have X6:=hC6.box Xa (by omega);have Y6:=hC6.box Ya (by omega);have T6:=hC6.box T (by omega);have hz6:=hC6.size;have hB6:=hba.trans (hC6.b1 (B:=w.heap.size) (by omega) (by omega));have hhx:=PN.in hpx;have C6:zr_ PN BN W6 h1 W6.heap.size (P++ [⟨y.n,xa,xc,xb,xd,xe,xf⟩]):=(((c5.hi (show wr.heap.size≤va.heap.size from by omega)).push hpx (fun b hb=>hhx b hb) (by omega)).chgN hC6 (fun b hb=> .inl (by have hb:b=g:=hb;omega))).hi hz6;obtain⟨hgl,d0,d1,d2,d3,d4,d5,d6,d7,d8⟩:=zR_ oa k (by have:=vx_ P N k hp hk;omega) (vx_ P N k hp hk).symm;obtain⟨f0,f1,f2,f3,f4,f5,f6,f7,f8⟩:=frz9 oa (k*9);unfold vt_ set9 at hW6;go_simp;rw [←hW6];clear hW6 hgl d0 d1 d2 d3 d4 d5 d6 d7 d8 f0 f1 f2 f3 f4 f5 f6 f7 f8 oa hC6 Xa Ya T c5 hba hhx;refine hK.out _ W6 ⟨X6,T6⟩ (fun zc_=> ?_);clear hK K zc_
   try (simp only [Act.put,sA_,sB_,sC_])
   refine wpAnyH_done (by kernel_rfl) ?_ _;have HQ:Hid ((P++ [(⟨y.n,xa,xc,xb,xd,xe,xf⟩:Nv)]).map Nv.n=(N.take (k+1)).map Nv.n):=vg_ Nv.n P N k hlt HPm.out (⟨y.n,xa,xc,xb,xd,xe,xf⟩:Nv) (by rw [HY.out]);clear HPm HY;go_wp2;go_roundw
   case rel=>exact⟨k+1,P++ [⟨y.n,xa,xc,xb,xd,xe,xf⟩],by go_num,by omega,by simp [hp],HQ.out,X6,Y6,o6,C6,hB6⟩
   case measure=>simp [intOf];omega
  ·obtain rfl:k=N.length:=by omega
   have hPn:Hid (P.map Nv.n=N.map Nv.n):=by show _=_;rw [HPm.out,List.take_length]
   have hPl:P.length=N.length:=hp;rw [List.drop_length,List.append_nil] at hown;clear KN hk hlt HPm hp;obtain⟨PX,hPX⟩:∃PX,P=PX:=⟨_,rfl⟩;rw [hPX] at hown hch hPl hPn;clear hPX;obtain⟨xl,x0,x1,x2,f0,f1,f2⟩:=Xr.c3f;go_wp2_with fail;refine (K2 _ hb).mono ?_;rintro e w1 ⟨u,rfl,o1,hb1⟩;obtain⟨um,umc,rfl⟩:=ze_ o1;have hcr:=hch.belowN hb1;have hnr:=zd_ hown hb1;replace Xr:=Xr.below hb1;replace Yr:=Yr.below hb1;have hB:=za_ hb hb1;have g1:=zg_ o1;have l1:=zh_ o1;have hz1:=hb1.size;clear K2 hb1 hb hown hch xl x0 x1 x2 f0 f1 f2;obtain⟨W4,hW4⟩:∃W,W=w1.setCell ⟨w.heap.size,1,none⟩ (.slice um M.length umc):=⟨_,rfl⟩;have hC2:Chg (fun b=>b=w.heap.size) w1 W4:=by rw [hW4];exact Chg.setCell (S:=fun b=>b=w.heap.size) (Chg.refl _ _) rfl _
   have X4:Box W4 w.heap.size [.slice ua N.length uc,.slice um M.length umc,.slice ya L.length yc]:=by rw [hW4];exact Xr.set 1 _ (by simp)
   have Y4:=hC2.box Yr (by omega);have o4:=zf_ (hC2.owns o1 (fun b hb hh=>by have:=g1 b hb;have hh:b=w.heap.size:=hh;omega)) (show w.heap.size≤wr.heap.size from by omega);have n4:=hC2.owns hnr (fun b hb hh=>by have:=hg1 b hb;have hh:b=w.heap.size:=hh;omega);have c4:=hcr.chgN hC2 (fun b hb=> .inl (by have hb:b=w.heap.size:=hb;omega));have hB4:=hB.trans (hC2.b1 (B:=w.heap.size) (by omega) (by omega));have hz4:=hC2.size;obtain⟨xl,x0,x1,x2,f0,f1,f2⟩:=Xr.c3f;go_upto_region 8 with fail;rw [←hW4];clear hW4 xl x0 x1 x2 f0 f1 f2 Xr Yr o1 hB hC2 hnr hcr;obtain⟨h3,hh3⟩:∃h3,h3=W4.heap.size:=⟨_,rfl⟩;obtain⟨zx,hzx⟩:∃zx,zx=wr.heap.size:=⟨_,rfl⟩;rw [←hzx] at c4 g1;have hg2:∀b,(.slice um M.length umc:Value).ownBlock=some b→zx≤b∧b<h3:=fun b hb=>⟨g1 b hb,by have:=l1 b hb;omega⟩;have hh4:w.heap.size+1+1≤zx:=by omega
   have hwr3:zx≤h3:=by omega
   have HN4:Hid (W4.ownsRow w.heap.size 42 9 (.slice ua N.length uc) N.length (zI_ PX)):=n4;have HC4:Hid (zr_ PN BN W4 h1 zx PX):=c4;clear g1 l1 n4 c4 hz1 hz4 hzr hhr hzx;obtain⟨xl,x0,x1,x2,f0,f1,f2⟩:=X4.c3f;go_wp2;clear xl x0 x1 x2 f0 f1 f2
   go_loopw [33] (fun i wr=>∃(k:Nat) (P:List Mv),i= .int .i64 k∧k≤M.length∧P.length=k∧P.map Mv.q=(M.take k).map Mv.q∧Box wr w.heap.size [.slice ua N.length uc,.slice um M.length umc,.slice ya L.length yc]∧Box wr (w.heap.size+1) z3∧wr.ownsRow w.heap.size 80 9 (.slice um M.length umc) M.length (zo_ (P++M.drop k))∧zr_ PM BM wr h3 wr.heap.size P∧Chg (fun b=>(.slice um M.length umc:Value).ownBlock=some b) W4 wr∧Below w.heap.size w wr) (fun i _=>M.length-(intOf i).toNat)
   case atStart=>exact⟨0,[],rfl,Nat.zero_le _,rfl,rfl,X4,Y4,by simpa using o4,zr_.nil (by omega),Chg.refl _ _,hB4⟩
   case round=>
    obtain⟨k,P,rfl,hk,hp,HP,Xr,Yr,hown,hch,hcw,hb⟩:=hrel;have HPm:Hid (P.map Mv.q=(M.take k).map Mv.q):=HP;clear X4 Y4 o4 hB4 HP;have hzr:w.heap.size+1<wr.heap.size:=Yr.1;have hhr:h3≤wr.heap.size:=hch.ends;by_cases hlt:k<M.length
    ·obtain⟨ey,HEY⟩:=mid_at P M k hp hlt;have hml:=vx_ P M k hp hk;obtain⟨g,rfl⟩:∃g,um=some ⟨g,0,none⟩:=by
      rcases hown.2 with⟨_,h0⟩ | ⟨g,cap,cur,hv,_⟩
      ·omega
      ·simp only [Value.slice.injEq] at hv;exact⟨g,hv.1⟩
     have hgg:=hg2 g rfl;have KM2:=fun W q=>KM W q k hlt;obtain⟨hgl,c0,c1,c2,c3,c4,c5,c6,c7,c8⟩:=xD_ hown k ey hml.symm;rw [HEY] at c0 c1 c2 c3 c4 c5 c6 c7 c8;obtain⟨y,HY⟩:∃y,Hid (M[k]=y):=⟨M[k],(rfl:M[k]=M[k])⟩;rw [HY.out] at c0 c1 c2 c3 c4 c5 c6 c7 c8;simp only [HY.out] at KM2;have HO:Hid (wr.ownsRow w.heap.size 80 9 (.slice (some ⟨g,0,none⟩) M.length umc) M.length (zo_ (P++M.drop k))):=hown;clear KM K3 HEY ey hml hown;have hBA:=zb_ wr (.cells y 80);have T:=Box.new wr y 80;have Xa:=Xr.below hBA;have Ya:=Yr.below hBA;have ca:=hch.belowM hBA;have hba:=za_ hb hBA;replace hcw:=hcw.trans (Chg.of_below hBA);obtain⟨xl,x0,x1,x2,f0,f1,f2⟩:=Xr.c3f;go_upto_region 11 with fail;obtain⟨va,hva⟩:∃W,W=wr.alloc (.cells y 80):=⟨_,rfl⟩;have oa:va.ownsRow w.heap.size 80 9 (.slice (some ⟨g,0,none⟩) M.length umc) M.length (zo_ (P++M.drop k)):=by rw [hva];exact zd_ HO.out hBA
     rw [←hva] at T Xa Ya ca hba hcw ⊢;have hz3:va.heap.size=wr.heap.size+1:=by rw [hva];simp
     clear hva xl x0 x1 x2 f0 f1 f2 c0 c1 c2 c3 c4 c5 c6 c7 c8 hBA HO Xr Yr hch hb hgl;have hD:Below va.heap.size va va.drew:=(Below.refl _ _).drew;replace T:=T.below hD;replace Xa:=Xa.below hD;replace Ya:=Ya.below hD;replace ca:=(ca.belowM hD);replace oa:=zd_ oa hD;replace hba:=za_ hba hD;replace hcw:=hcw.trans (Chg.of_below hD);have hzd:va.drew.heap.size=wr.heap.size+1:=by rw [←hz3];rfl
     clear hD hz3;refine wp_region_held_drew (S:=(fun w'=>Box w' w.heap.size [.slice ua N.length uc,.slice (some ⟨g,0,none⟩) M.length umc,.slice ya L.length yc]∧Box w' wr.heap.size y)) (by kernel_rfl) ⟨Xa,T⟩ (fun zc_=> ?_);generalize va.drew=va at*;refine tkH 0 (.pointer (some ⟨w.heap.size,1,none⟩)) rfl ?_ ?_
     ·intro wx hSw;clear zc_ hSw;go_simp
     simp only [Act.put,sA_,sB_,sC_];refine tkH 1 (.slice (some ⟨g,0,none⟩) M.length umc) rfl ?_ ?_
     ·intro wx hSw;have e:=hSw.1.2.1 1 _ rfl;have e2:=hSw.1.1;clear zc_ hSw;go_simp
     simp only [Act.put,sA_,sB_,sC_];refine tkH 2 (.int .i64 k) rfl ?_ ?_
     ·intro wx hSw;clear zc_ hSw;go_simp
     simp only [Act.put,sA_,sB_,sC_];refine tkH 3 (.agg y) rfl ?_ ?_
     ·intro wx hSw;obtain⟨sl,s0,s1,s2,s3,s4,s5,s6,s7,s8⟩:=hSw.2.e9;clear zc_ hSw;go_simp
     simp only [Act.put,sA_,sB_,sC_];refine rd1 4 rfl (fun K hK=> ?_);clear zc_;go_simp;refine (KM2 va hba).mono ?_;rintro e w5 ⟨xa,xc,rfl,ox,hb5⟩;replace T:=T.below hb5;replace Xa:=Xa.below hb5;replace Ya:=Ya.below hb5;replace oa:=zd_ oa hb5;have c5:=ca.belowM hb5;replace hba:=za_ hba hb5;replace hcw:=hcw.trans (Chg.of_below hb5);have hz5:=hb5.size;have hpx:PM w5 va.heap.size ⟨y.q,xa,xc⟩:=ox;clear KM2 hb5 ca ox;refine hK.out _ w5 ⟨Xa,T⟩ (fun zc_=> ?_);clear hK K
     try (simp only [Act.put,sA_,sB_,sC_])
     refine tkH 5 (.pointer (some ⟨g,k*9,none⟩)) rfl ?_ ?_
     ·intro wx hSw;clear zc_ hSw;go_simp
     simp only [Act.put,sA_,sB_,sC_];refine rd1 6 rfl (fun K hK=> ?_);clear zc_;have hC6:=qJ_ w5 g k ⟨y.q,xa,xc⟩;have o6:=rX_ oa k ⟨y.q,xa,xc⟩;rw [qI_ P M k hp hlt] at o6;obtain⟨W6,hW6⟩:∃W,W=qK_ w5 g k ⟨y.q,xa,xc⟩:=⟨_,rfl⟩;rw [←hW6] at o6 hC6;have hcw6:=hcw.trans (hC6.mono fun b hb=>by have hb:b=g:=hb;rw [hb];rfl);have X6:=hC6.box Xa (by omega);have Y6:=hC6.box Ya (by omega);have T6:=hC6.box T (by omega);have hz6:=hC6.size;have hB6:=hba.trans (hC6.b1 (B:=w.heap.size) (by omega) (by omega));have hhx:=PM.in hpx;have C6:zr_ PM BM W6 h3 W6.heap.size (P++ [⟨y.q,xa,xc⟩]):=(((c5.hi (show wr.heap.size≤va.heap.size from by omega)).push hpx (fun b hb=>hhx b hb) (by omega)).chgM hC6 (fun b hb=> .inl (by have hb:b=g:=hb;omega))).hi hz6;obtain⟨hgl,d0,d1,d2,d3,d4,d5,d6,d7,d8⟩:=xD_ oa k (by have:=vx_ P M k hp hk;omega) (vx_ P M k hp hk).symm;obtain⟨f0,f1,f2,f3,f4,f5,f6,f7,f8⟩:=frz9 oa (k*9);unfold qK_ set9 at hW6;go_simp;rw [←hW6];clear hW6 hgl d0 d1 d2 d3 d4 d5 d6 d7 d8 f0 f1 f2 f3 f4 f5 f6 f7 f8 oa hC6 hcw Xa Ya T c5 hba hhx;refine hK.out _ W6 ⟨X6,T6⟩ (fun zc_=> ?_);clear hK K zc_
     try (simp only [Act.put,sA_,sB_,sC_])
     refine wpAnyH_done (by kernel_rfl) ?_ _;have HQ:Hid ((P++ [(⟨y.q,xa,xc⟩:Mv)]).map Mv.q=(M.take (k+1)).map Mv.q):=vg_ Mv.q P M k hlt HPm.out (⟨y.q,xa,xc⟩:Mv) (by rw [HY.out]);clear HPm HY;go_wp2;go_roundw
     case rel=>exact⟨k+1,P++ [⟨y.q,xa,xc⟩],by go_num,by omega,by simp [hp],HQ.out,X6,Y6,o6,C6,hcw6,hB6⟩
     case measure=>simp [intOf];omega
    ·obtain rfl:k=M.length:=by omega
     have hPm:Hid (P.map Mv.q=M.map Mv.q):=by show _=_;rw [HPm.out,List.take_length]
     have hPm2:P.length=M.length:=hp;rw [List.drop_length,List.append_nil] at hown;clear KM hk hlt HPm hp;obtain⟨xl,x0,x1,x2,f0,f1,f2⟩:=Xr.c3f;go_wp2_with fail;refine (K3 _ hb).mono ?_;rintro e w1 ⟨u,rfl,o1,hb1⟩;obtain⟨ul,ulc,rfl⟩:=ze_ o1;have hcm:=hch.belowM hb1;have hmr:=zd_ hown hb1;have hcw1:=hcw.trans (Chg.of_below hb1);replace Xr:=Xr.below hb1;replace Yr:=Yr.below hb1;have hB:=za_ hb hb1;have g1:=zg_ o1;have l1:=zh_ o1;have hz1:=hb1.size;clear K3 hb1 hb hown hch hcw xl x0 x1 x2 f0 f1 f2;obtain⟨W6,hW6⟩:∃W,W=w1.setCell ⟨w.heap.size,2,none⟩ (.slice ul L.length ulc):=⟨_,rfl⟩;have hC2:Chg (fun b=>b=w.heap.size) w1 W6:=by rw [hW6];exact Chg.setCell (S:=fun b=>b=w.heap.size) (Chg.refl _ _) rfl _
     have X6:Box W6 w.heap.size [.slice ua N.length uc,.slice um M.length umc,.slice ul L.length ulc]:=by rw [hW6];exact Xr.set 2 _ (by simp)
     have Y6:=hC2.box Yr (by omega);obtain⟨xl,x0,x1,x2,f0,f1,f2⟩:=Xr.c3f;go_upto_region 14 with fail;rw [←hW6];clear hW6 xl x0 x1 x2 f0 f1 f2 Xr Yr;obtain⟨W7,hW7,hC5,Y7⟩:=zi_ W6 Y6 (.slice ua N.length uc) (.slice um M.length umc) (.slice ul L.length ulc);have hC7:Chg (fun b=>b=w.heap.size∨b=w.heap.size+1) w1 W7:=(hC2.mono fun b hb=> .inl hb).trans (hC5.mono fun b hb=> .inr hb);have hz7:=hC7.size;have l7:=zf_ (hC7.owns o1 (fun b hb hh=>by have:=g1 b hb;omega)) (show w.heap.size≤wr.heap.size from by omega);have m7:=hC7.owns hmr (fun b hb hh=>by have:=hg2 b hb;omega);have q7:=hcm.chgM hC7 (fun b hb=> .inl (by omega));have h1zx:=HC4.out.ends;have hcw7:Chg (fun b=>(.slice um M.length umc:Value).ownBlock=some b∨b=w.heap.size∨b=w.heap.size+1) W4 W7:=(hcw1.mono fun b hb=> .inl hb).trans (hC7.mono fun b hb=> .inr hb);have n7:=hcw7.owns HN4.out (fun b hb hh=>by have:=hg1 b hb;rcases hh with hh | hh;have:=hg2 b hh;omega;omega);have p7:=HC4.out.chgN hcw7 (fun b hb=>by rcases hb with hb | hb;have:=hg2 b hb;omega;omega);rw [←hPl] at n7;rw [←hPm2] at m7;have hFF:Hid (OwnC W7 w.heap.size W7.heap.size (.slice ua N.length uc) (.slice um M.length umc) (.slice ul L.length ulc) PX P L):=by
      refine OwnC.of (mid:=h3) (by rw [←hPl];exact n7) (by rw [←hPm2];exact m7) l7 ((p7.lo (by omega)).hi (by omega)) (q7.hi (by omega)) (fun b hb=>by have:=hg1 b hb;omega) (fun b hb=>by have:=hg2 b hb;omega) (fun b hb=>by have:=l1 b hb;omega)
     have hBF:=hB.trans (hC7.below (B:=w.heap.size) (by omega) (fun b hb=>by omega));clear hC5 hC7 hC2 o1 hmr hcm l7 m7 q7 hcw7 n7 p7 hcw1 g1 l1 HN4 HC4 hB;obtain⟨yl,y0,y1,y2,f0,f1,f2⟩:=Y6.c3f;obtain⟨xl,x0,x1,x2⟩:=X6.c3;clear X6 Y6;obtain⟨zl,t0,t1,t2⟩:=Y7.c3;clear Y7;unfold put3 at*;go_wp2;rw [←hW7];exact bodyPost_ret (v:= .agg #[.slice ua N.length uc,.slice um M.length umc,.slice ul L.length ulc]) (by simp [results,Tryz.results45,go_sem,t0,t1,t2]) rfl ⟨⟨_,_,_,_,_,rfl,hFF.out,hPn.out,hPm.out⟩,hBF⟩
set_option maxHeartbeats 200000
def yO_ (w':World) (lo:Nat) (ok:Bool) (N2:List Nd) (M2:List Ms) (L2:List Ld) (e:Ending):Prop:=
 (ok=true∧∃un um ul N' M',e= .returned (.tuple #[.agg #[un,um,ul],true])∧OwnC w' lo w'.heap.size un um ul N' M' L2∧N'.map Nv.n=N2∧M'.map Mv.q=M2)∨
 (ok=false∧∃(a1:Option Addr) (n1 c1:Nat) (a2:Option Addr) (n2 c2:Nat) (a3:Option Addr) (n3 c3:Nat),e= .returned (.tuple #[.agg #[.slice a1 n1 c1,.slice a2 n2 c2,.slice a3 n3 c3],false]))
theorem Box.c5 {w:World} {b:Nat} {u v t x y:Value} (h:Box w b [u,v,t,x,y]):b<w.heap.size∧w.cell? ⟨b,0,none⟩=some u∧w.cell? ⟨b,1,none⟩=some v∧w.cell? ⟨b,2,none⟩=some t∧w.cell? ⟨b,3,none⟩=some x∧w.cell? ⟨b,4,none⟩=some y:=⟨h.1,h.2.1 0 _ rfl,h.2.1 1 _ rfl,h.2.1 2 _ rfl,h.2.1 3 _ rfl,h.2.1 4 _ rfl⟩
def TyB (w:World) (b:Nat) (t:TypeId):Prop:=∃cur,w.heap[b]? =some (.cells cur t (0,0))
theorem TyB.lt {w:World} {b:Nat} {t:TypeId} (h:TyB w b t):b<w.heap.size:=by
 obtain⟨cur,h⟩:=h;exact (Array.getElem?_eq_some_iff.1 h).1
theorem TyB.below {w w':World} {b:Nat} {t:TypeId} (h:TyB w b t) (hb:Below w.heap.size w w'):TyB w' b t:=by
 have hl:=h.lt;obtain⟨cur,h⟩:=h;exact⟨cur,(hb.block b hl).trans h⟩
theorem TyB.chg {S:Nat→Prop} {w w':World} {b:Nat} {t:TypeId} (h:TyB w b t) (hc:Chg S w w') (hs:¬S b):TyB w' b t:=by
 have hl:=h.lt;obtain⟨cur,h⟩:=h;exact⟨cur,(hc.block b hl hs).trans h⟩
theorem TyB.ne {w:World} {b base size n:Nat} {t e:TypeId} {v:Value} {xs:List Value} (h:TyB w b t) (ho:w.ownsRow base e size v n xs) (hne:t≠e):¬v.ownBlock=some b:=by
 intro hb;obtain⟨cur,h⟩:=h;rcases ho.2 with⟨rfl,_⟩ | ⟨g,cap,cur2,rfl,_,hh,_⟩
 ·cases hb
 ·simp only [Value.ownBlock,Option.some.injEq] at hb;subst hb;rw [h] at hh;simp only [Option.some.injEq,Obj.cells.injEq] at hh;exact hne hh.2.1
theorem OwnC.keep {w w':World} {lo hi b:Nat} {vn vm vl:Value} {N:List Nv} {M:List Mv} {L:List Ld} (h:OwnC w lo hi vn vm vl N M L) (ht:TyB w b 30) (hC:Chg (fun k=>k=b) w w'):OwnC w' lo hi vn vm vl N M L:=by
 have q:∀ {base size n:Nat} {e:TypeId} {v:Value} {xs:List Value},w.ownsRow base e size v n xs→30≠e→w'.ownsRow base e size v n xs:=fun ho hne=>hC.owns ho fun g hg e=>ht.ne ho hne (by rw [hg,e]);exact⟨q h.n (by decide),q h.m (by decide),q h.l (by decide),h.cn.map fun c x hp _=>⟨q (OwnN.l hp) (by decide),q (OwnN.v hp) (by decide),q (OwnN.m hp) (by decide),OwnN.ne hp⟩,h.cm.map fun c x hp _=>q hp (by decide),h.ap,h.bn,h.bm,h.bl⟩
theorem zw_ {N:List Nv} {j:Nat} (hj:j<N.length):atN (N.map Nv.n) (j:Int)=N[j].n:=by
 simp [atN,List.getD,hj]
theorem xm_ {M:List Mv} {j:Nat} (hj:j<M.length):atM (M.map Mv.q) (j:Int)=M[j].q:=by
 simp [atM,List.getD,hj]
theorem yu_ {i:Int} {n:Nat} (h:isP i n=true):∃j:Nat,i=(j:Int)∧j<n:=by
 simp only [isP,Bool.and_eq_true,decide_eq_true_eq] at h;exact⟨i.toNat,by omega,by omega⟩
theorem isP_of {j n:Nat} (h:j<n):isP (j:Int) n=true:=by
 simp only [isP,Bool.and_eq_true,decide_eq_true_eq];omega
theorem map_set {α β:Type} (f:α→β) (l:List α) (j:Nat) (x:α):(l.set j x).map f=(l.map f).set j (f x):=List.map_set
theorem vb_ (M A:List Mv):(M++A.take (60-M.length)).map Mv.q=xh_ (M.map Mv.q) (A.map Mv.q):=by
 unfold xh_;rw [List.map_append,List.map_take,List.length_map]
theorem OwnC.hbl {w:World} {lo hi:Nat} {vn vm vl:Value} {N:List Nv} {M:List Mv} {L:List Ld} (h:OwnC w lo hi vn vm vl N M L):Hid (∀b,(vn.ownBlock=some b∨vm.ownBlock=some b∨vl.ownBlock=some b)→lo≤b∧b<hi):=fun b hb=>by
 rcases hb with q | q | q
 ·exact⟨zg_ h.n b q,h.bn b q⟩
 ·exact⟨zg_ h.m b q,h.bm b q⟩
 ·exact⟨zg_ h.l b q,h.bl b q⟩
structure PS where
 n:List Nd
 m:List Ms
 l:List Ld
def yt_ (c:PS) (s:Sp):PS:=if stB c.n c.m s=true then⟨stN c.n c.m s,stM c.n c.m s,stL c.n c.m c.l s⟩ else c
def plGo (c:PS):List Sp→PS
 | []=>c
 | s::r=>plGo (yt_ c s) r
def yQ_ (c:PS):List Sp→List Bool
 | []=> []
 | s::r=>stB c.n c.m s::yQ_ (yt_ c s) r
theorem yE_ (c:PS) (l:List Sp):(yQ_ c l).length=l.length:=by
 induction l generalizing c with
 | nil=>rfl
 | cons s r ih=>simp [yQ_,ih]
theorem tA_ (c:PS) (l:List Sp) (s:Sp):plGo c (l++ [s])=yt_ (plGo c l) s:=by
 induction l generalizing c with
 | nil=>rfl
 | cons x r ih=>exact ih _
theorem ux_ (c:PS) (l:List Sp) (s:Sp):yQ_ c (l++ [s])=yQ_ c l++ [stB (plGo c l).n (plGo c l).m s]:=by
 induction l generalizing c with
 | nil=>rfl
 | cons x r ih=>simp only [List.cons_append,yQ_,ih,plGo]
structure PF (p:Nat) (c:PS):Prop where
 g:PG p c.n c.m c.l
 f:Fits p c.n c.m c.l
theorem PF.step {p:Nat} {c:PS} (h:PF p c) (s:Sp):PF p (yt_ c s):=by
 unfold yt_
 split
 ·rename_i hs
  exact⟨h.g.step s hs,h.g.fits h.f s hs⟩
 ·exact h
theorem PF.go {p:Nat} {c:PS} (h:PF p c) (l:List Sp):PF p (plGo c l):=by
 induction l generalizing c with
 | nil=>exact h
 | cons s r ih=>exact ih (h.step s)
def zG_ (p:Nat):PS:=⟨(yo_ p p).map Nv.n,[],[]⟩
theorem newGd (i p:Nat) (hi:i<p) (hp:p≤7):Gd (newN i p):=
 ⟨by show (1:Int)≤p;omega,by show (p:Int)≤7;omega,by show (0:Int)≤i;omega,by show (i:Int)<p;omega,by show (0:Int)≤0;omega,by show (0:Int)≤1000;omega,by show (-1:Int)≤ -1;omega,by show (-1:Int)<p;omega,by simp [newN,gE],by simp [newN],by show (0:Int)≤0;omega,by simp [newN],by show zH_ _ _ _ _ 0 _ [] []=true;rw [yC_];simp⟩
theorem newPF (p:Nat) (h1:1≤p) (h7:p≤7):PF p (zG_ p):=by
 have hl:((yo_ p p).map Nv.n).length=p:=by rw [List.length_map,xF_]
 have ha:∀j (h:j<((yo_ p p).map Nv.n).length),((yo_ p p).map Nv.n)[j]=newN j p:=fun j h=>by
  rw [List.getElem_map,vf_]
 refine⟨⟨h1,h7,hl,fun j h=> ?_,by simp [zG_],fun m hm=>by simp [zG_] at hm,by simp [zG_],fun l hl=>by simp [zG_] at hl⟩,Fits.new p _ hl fun j h=> ?_⟩
 ·have e:(zG_ p).n[j]=newN j p:=ha j h;rw [e];have hj:j<p:=by have h':j<((yo_ p p).map Nv.n).length:=h;rw [hl] at h';exact h'
  exact⟨newGd j p hj h7,rfl,rfl,by simp [zA_,cmN,newN]⟩
 ·have e:(zG_ p).n[j]=newN j p:=ha j h;rw [e];exact⟨rfl,rfl,rfl,rfl,rfl⟩
def vR_:List Sp→List Value
 | []=> []
 | s::r=> .int .i64 s.ki:: .int .i64 s.no:: .int .i64 s.k:: .int .i64 s.ma:: .string s.d::vR_ r
theorem pr_ (l:List Sp) (i:Nat) (h:i<l.length):(vR_ l)[i*5]? =some (.int .i64 l[i].ki)∧(vR_ l)[i*5+1]? =some (.int .i64 l[i].no)∧(vR_ l)[i*5+2]? =some (.int .i64 l[i].k)∧(vR_ l)[i*5+3]? =some (.int .i64 l[i].ma)∧(vR_ l)[i*5+4]? =some (.string l[i].d):=by
 induction l generalizing i with
 | nil=>simp at h
 | cons x r ih=>
  cases i with
  | zero=>exact⟨rfl,rfl,rfl,rfl,rfl⟩
  | succ i=>
   have:=ih i (by simpa using h);simp only [vR_,List.getElem_cons_succ];have e:∀(m:Nat) (q0 q1 q2 q3 q4:Value) (L:List Value),(q0::q1::q2::q3::q4::L)[(i+1)*5+m]? =L[i*5+m]? :=by
    intro m q0 q1 q2 q3 q4 L;rw [show (i+1)*5+m=(i*5+m)+1+1+1+1+1 from by omega];simp only [List.getElem?_cons_succ]
   have e0:=e 0;simp only [Nat.add_zero] at e0;rw [e0,e 1,e 2,e 3,e 4];exact this
theorem qF_ {w:World} {v:Value} {l:List Sp} (h:yi_ w 5 v l.length (vR_ l)) (hne:l≠ []):∃b off cap,v= .slice (some ⟨b,off,none⟩) l.length cap∧b<w.heap.size∧∀i (hi:i<l.length),w.cell? ⟨b,off+i*5,none⟩=some (.int .i64 l[i].ki)∧w.cell? ⟨b,off+i*5+1,none⟩=some (.int .i64 l[i].no)∧w.cell? ⟨b,off+i*5+2,none⟩=some (.int .i64 l[i].k)∧w.cell? ⟨b,off+i*5+3,none⟩=some (.int .i64 l[i].ma)∧w.cell? ⟨b,off+i*5+4,none⟩=some (.string l[i].d):=by
 obtain⟨_,a,cap,rfl,h⟩:=h;have hl:0<l.length:=List.length_pos_iff.2 hne;rcases h with⟨_,h0⟩ | ⟨b,off,rfl,hb,hc⟩
 ·omega
 ·refine⟨b,off,cap,rfl,hb,fun i hi=> ?_⟩;obtain⟨g0,g1,g2,g3,g4⟩:=pr_ l i hi;exact⟨hc _ _ g0,by rw [Nat.add_assoc];exact hc _ _ g1,by rw [Nat.add_assoc];exact hc _ _ g2,by rw [Nat.add_assoc];exact hc _ _ g3,by rw [Nat.add_assoc];exact hc _ _ g4⟩
def didV (D:List Bool) (n:Nat):List Value:=D.map Value.bool++List.replicate (n-D.length) (.bool false)
theorem rQ_ (D:List Bool) (n:Nat) (b:Bool) (h:D.length<n):(didV D n).set D.length (.bool b)=didV (D++ [b]) n:=by
 unfold didV;rw [List.map_append,List.length_append,show n-D.length=(n-(D.length+1))+1 from by omega,List.replicate_succ,List.set_append_right _ _ (by simp),List.length_map,Nat.sub_self,sB_,List.append_assoc]
 rfl
theorem didV_all (D:List Bool) (n:Nat) (h:D.length=n):didV D n=D.map Value.bool:=by
 unfold didV;rw [h,Nat.sub_self];simp
theorem OwnC.keepT {w w':World} {lo hi b:Nat} {t:TypeId} {vn vm vl:Value} {N:List Nv} {M:List Mv} {L:List Ld} (h:OwnC w lo hi vn vm vl N M L) (ht:TyB w b t) (h1:t≠42) (h2:t≠80) (h3:t≠34) (h4:t≠44) (h5:t≠3) (hC:Chg (fun k=>k=b) w w'):OwnC w' lo hi vn vm vl N M L:=by
 have q:∀ {base size n:Nat} {e:TypeId} {v:Value} {xs:List Value},w.ownsRow base e size v n xs→t≠e→w'.ownsRow base e size v n xs:=fun ho hne=>hC.owns ho fun g hg e=>ht.ne ho hne (by rw [hg,e]);exact⟨q h.n h1,q h.m h2,q h.l h3,h.cn.map fun c x hp _=>⟨q (OwnN.l hp) h4,q (OwnN.v hp) h5,q (OwnN.m hp) h5,OwnN.ne hp⟩,h.cm.map fun c x hp _=>q hp h4,h.ap,h.bn,h.bm,h.bl⟩
theorem TyB.of_own {w:World} {base size n cap g:Nat} {e:TypeId} {xs:List Value} (h:w.ownsRow base e size (.slice (some ⟨g,0,none⟩) n cap) n xs):TyB w g e:=by
 rcases h.2 with⟨h,_⟩ | ⟨g',cap',cur,hv,_,hh,_⟩
 ·cases h
 ·simp only [Value.slice.injEq,Option.some.injEq,Addr.mk.injEq,and_true,true_and] at hv;obtain⟨rfl,rfl⟩:=hv;exact⟨cur,hh⟩
end Go.Proofs.YtapfhhmimkkhnaaGreat
