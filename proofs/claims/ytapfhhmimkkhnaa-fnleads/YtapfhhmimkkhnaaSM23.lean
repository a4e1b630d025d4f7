/-
  A message delivered, the specification's way.
-/
import Derived.Test.YtapfhhmimkkhnaaNEToLS12
import Derived.Test.YtapfhhmimkkhnaaQFToNS
import Derived.Test.YtapfhhmimkkhnaaNCToPLI
import Derived.Deep.Cut
import Derived.Deep.RegionHeld3
namespace Go.Proofs.Ytapfhhmimkkhnaa
open Go.RowKit Go.Maps
set_option maxHeartbeats 16000000
set_option linter.unusedVariables false
set_option maxRecDepth 100000
theorem viaM {G:Prop} {P H:World→Nat→Option Addr→Nat→Prop} (h1:∀v g0 ua uc,H v g0 ua uc→P v g0 ua uc) (h2:(∀v g0 ua uc,H v g0 ua uc→P v g0 ua uc)→G):G:=h2 h1
theorem rowIn_from {w:World} {base g cap j b off:Nat} {M:List Mv} (ho:w.ownsRow base 38 9 (.slice (some ⟨g,0,none⟩) M.length cap) M.length (zu_ M)) (hb:(b=g∧off=(j+1)*9∧j+1≤M.length)∨(b=g∧j+1=M.length)):zP_ w 9 (.slice (some ⟨b,off,none⟩) (M.length-(j+1)) (cap-(j+1))) (M.length-(j+1)) (zu_ (M.drop (j+1))):=by
 have hfl:=flatM_length M;have hgl:=(owns_lt ho).2;refine⟨by rw [flatM_length,List.length_drop],_,_,rfl,.inr ⟨b,off,rfl,?_,fun i u hi=> ?_⟩⟩
 ·rcases hb with⟨rfl,_⟩ | ⟨rfl,_⟩ <;>exact hgl
 ·have hil:=(List.getElem?_eq_some_iff.1 hi).1;rw [flatM_length,List.length_drop] at hil;rcases hb with⟨rfl,rfl,hj⟩ | ⟨rfl,hj⟩
  ·rw [ho.cellAt _ (by omega),←hi,←flatM_drop,List.getElem?_drop]
  ·omega
theorem l12Msg_23 (p lo hi:Nat) (vn vm vl:Value) (N:List Nv) (M:List Mv) (L:List Ld) (ki no k mn:Int) (d:ByteArray) (w:World) (h:OwnC w lo hi vn vm vl N M L) (hh:hi≤w.heap.size) (hG:PG p (N.map Nv.n) (M.map Mv.q) L) (hk:ki=2∨ki=3) (hOK:ki=2→isP k M.length=true→hmOk (atN (N.map Nv.n) (atM (M.map Mv.q) k).dst) (atM (M.map Mv.q) k)=true) (hSet:∀i (h:i<N.length),zv_ N[i].n) (KHM:∀(x:Nv) (m:Mv) (c b2:Nat) (W:World),PN W c x→PM W b2 m→Gd x.n→zv_ x.n→x.n.pe=(p:Int)→gMs p m.q=true→m.q.dst=x.n.id→hmOk x.n m.q=true→Calls Try.prog 171 #[.agg x,.agg m] W fun e w'=>NodeA W w' true (hmX x.n m.q) (hmA (hmU x.n m.q.te) m.q) e∧Below W.heap.size W w'):
  Calls Try.prog 160 #[.agg #[vn,vm,vl],.agg #[ki,no,k,mn,d]] w fun e w'=>StepA w' lo (stB (N.map Nv.n) (M.map Mv.q) ⟨ki,no,k,mn,d⟩) (stN (N.map Nv.n) (M.map Mv.q) ⟨ki,no,k,mn,d⟩) (stM (N.map Nv.n) (M.map Mv.q) ⟨ki,no,k,mn,d⟩) (stL (N.map Nv.n) (M.map Mv.q) L ⟨ki,no,k,mn,d⟩) e∧Chg (fun b=>lo≤b∧b<hi) w w':=by
 have hlh:=h.lohi;obtain⟨⟨na,nc,rfl⟩,⟨ma,mc,rfl⟩,ya,yc,rfl⟩:=h.shapes;obtain⟨W0,hW0,hB,X,Y,Z,hz0⟩:=al3 w [.slice na N.length nc,.slice ma M.length mc,.slice ya L.length yc] 60 [ki,no,k,mn,d] 154 z3 60;have hzw:=hB.size;have hT0:TyB W0 (w.heap.size+1+1) 60:=⟨z3,by
  rw [hW0];have:=heap_alloc_new ((w.alloc (.cells #[.slice na N.length nc,.slice ma M.length mc,.slice ya L.length yc] 60)).alloc (.cells #[ki,no,k,mn,d] 154)) (.cells z3 60);simpa using this⟩
 have HBL:=h.hbl;have hM1:=hG.m6;rw [List.length_map] at hM1;have h0:=h.below hB;have KP:∀W,Calls Try.prog 68 #[k,(0:Int),((M.length:Int)-1:Int)] W fun e w'=>e= .returned (.bool (isP k M.length))∧w'=W:=fun W=>by rw [←isP_inB];exact zs_ k 0 ((M.length:Int)-1) W
 clear h;have HB:stB (N.map Nv.n) (M.map Mv.q) ⟨ki,no,k,mn,d⟩=isP k M.length:=by
  rcases hk with h | h
  ·subst h;simp only [stB]
   cases hq:isP k M.length with
   | false=>simp [hq]
   | true=>simp [hq,hOK rfl hq]
  ·subst h;simp [stB]
 have HK:Hid (ki=2∨ki=3):=hk;have hk4:¬ki=4:=by omega
 clear hk;obtain⟨yl,y0,y1,y2,y3,y4⟩:=Y.c5;obtain⟨xl,x0,x1,x2⟩:=X.c3;go_enter Try.func160,Try.ntmps160;go_upto_region 1 with fail;rw [←hW0];clear hW0;go_wp2_with fail;refine (KP _).mono ?_;rintro e w1 ⟨rfl,hw1⟩;rw [hw1];clear hw1 KP w1;by_cases hP:isP k M.length=true;rotate_left
 ·replace hP:isP k M.length=false:=by simpa using hP
  rw [hP] at HB;rw [hP];clear h0;obtain⟨W5,hW5,hC5,Z5⟩:=zq_ W0 Z (.slice na N.length nc) (.slice ma M.length mc) (.slice ya L.length yc);have hBF:Hid (Chg (fun b=>lo≤b∧b<hi) w W5):=Chg.of_below (hB.trans (hC5.b1 (B:=w.heap.size) (by have:=hB.size;omega) (by omega)));have HF:Hid (stB (N.map Nv.n) (M.map Mv.q) ⟨ki,no,k,mn,d⟩=false):=HB;clear hC5;obtain⟨zl,z0,z1,z2,f0,f1,f2⟩:=Z.c3f;clear Z;obtain⟨tl,t0,t1,t2⟩:=Z5.c3;clear Z5;unfold put3 at*;go_wp2;rw [←hW5];exact bodyPost_ret (v:= .tuple #[.agg #[.slice na N.length nc,.slice ma M.length mc,.slice ya L.length yc],false]) (by simp [results,Try.results160,go_sem,t0,t1,t2]) rfl ⟨.inr ⟨HF.out,_,_,_,_,_,_,_,_,_,rfl⟩,hBF.out⟩
 rw [hP];rw [hP] at HB;obtain⟨j,rfl,hj⟩:=isP_nat hP;have HOK:Hid (stB (N.map Nv.n) (M.map Mv.q) ⟨ki,no,(j:Int),mn,d⟩=true):=HB;clear HB hP;obtain⟨g,rfl⟩:∃g,ma=some ⟨g,0,none⟩:=by
  rcases h0.m.2 with⟨_,h0⟩ | ⟨g,cap,cur,hv,_⟩
  ·omega
  ·simp only [Value.slice.injEq] at hv;exact⟨g,hv.1⟩
 have hgm:gMs p M[j].q=true:=hG.m M[j].q (List.mem_map.2 ⟨M[j],List.getElem_mem hj,rfl⟩);have hNp:N.length=p:=by have:=hG.n;rw [List.length_map] at this;exact this
 obtain⟨i,hdi,hil⟩:∃i:Nat,M[j].q.dst=(i:Int)∧i<N.length:=by
  obtain⟨_,_,a3,_⟩:=zD_ hgm;exact⟨M[j].q.dst.toNat,by omega,by omega⟩
 have hok1:ki=2→hmOk N[i].n M[j].q=true:=fun h2=>by
  have:=hOK h2 (isP_of hj);rw [atM_map hj,hdi,zS_ hil] at this;exact this
 have HDI:Hid (M[j].q.dst=(i:Int)):=hdi;obtain⟨c,hcb,hpx,hpbN⟩:=h0.cn.at i hil;obtain⟨c2,_,hpm,hpbM⟩:=h0.cm.at j hj;have hgd:Gd N[i].n∧N[i].n.id=(i:Int)∧N[i].n.pe=(p:Int):=by
  obtain⟨a,b,c,_⟩:=hG.g i (by rw [List.length_map];exact hil);rw [List.getElem_map] at a b c;exact⟨a,b,c⟩
 have hL1:=hG.l;have KT:=fun (h2:ki=2) W (q:Chg (fun b=>w.heap.size≤b) W0 W)=>KHM N[i] M[j] c c2 W (OwnN.chg hpx q (fun b h1 h2=>by have:=hpbN b h1;omega)) (q.owns hpm (fun b h1 h2=>by have:=hpbM b h1;omega)) hgd.1 (hSet i hil) hgd.2.2 hgm (hdi.trans hgd.2.1.symm) (hok1 h2);have HID:Hid ((hmX N[i].n M[j].q).id=(i:Int)):=(hmX_id _ _).1.trans hgd.2.1;clear hpx hpm hpbN hpbM hgd hgm hok1 hNp KHM hOK hSet;have HLE:Hid (j+(M.length-(j+1))=(M.eraseIdx j).length):=by show _=_;rw [List.length_eraseIdx,if_pos hj];omega
 obtain⟨hgl,c0,c1,c2,c3,c4,c5,c6,c7,c8⟩:=ownM_at h0.m j hj rfl;obtain⟨xo,HXO⟩:∃xo,Hid (M[j]=xo):=⟨M[j],(rfl:M[j]=M[j])⟩;rw [HXO.out] at c0 c1 c2 c3 c4 c5 c6 c7 c8 HDI;rw [HDI.out] at c2;have Q:=Box.new W0 #[xo.q.ki,xo.q.fr,(i:Int),xo.q.te,xo.q.ix,xo.q.be,.slice xo.ea xo.q.es.length xo.ec,xo.q.co,xo.q.ye] 38;have hBA:=zc_ W0 (.cells #[xo.q.ki,xo.q.fr,(i:Int),xo.q.te,xo.q.ix,xo.q.be,.slice xo.ea xo.q.es.length xo.ec,xo.q.co,xo.q.ye] 38);go_upto_region 4 with fail;obtain⟨w1,hw1⟩:∃W,W=W0.alloc (.cells #[xo.q.ki,xo.q.fr,(i:Int),xo.q.te,xo.q.ix,xo.q.be,.slice xo.ea xo.q.es.length xo.ec,xo.q.co,xo.q.ye] 38):=⟨_,rfl⟩;rw [←hw1] at hBA Q ⊢;have hs2:W0.heap.size<w1.heap.size:=by rw [hw1];simp
 clear hw1 c0 c1 c2 c3 c4 c5 c6 c7 c8 hgl yl y0 y1 y2 y3 y4 xl x0 x1 x2;replace X:=X.below hBA;replace Y:=Y.below hBA;replace Z:=Z.below hBA;replace hT0:=hT0.below hBA;replace h0:=h0.below hBA;replace hB:=za_ hB hBA;have KT1:=fun (h2:ki=2) W (q:Chg (fun b=>w.heap.size≤b) w1 W)=>KT h2 W ((Chg.of_below hBA).trans q);clear KT hBA;obtain⟨yl,y0,y1,y2,y3,y4⟩:=Y.c5;obtain⟨xl,x0,x1,x2⟩:=X.c3;have hcap:=own_cap h0.m;have SL1:=fun W=>sl_to27 (some ⟨g,0,none⟩) M.length mc j W (by omega);obtain⟨b,off,hb1,hb2⟩:∃b off,(if mc=j+1 then (some ⟨g,0,none⟩:Option Addr) else Option.map (fun x:Addr=>x.add ((j+1)*9)) (some (⟨g,0,none⟩:Addr)))=some ⟨b,off,none⟩∧((b=g∧off=(j+1)*9∧j+1≤M.length)∨(b=g∧j+1=M.length)):=by
  by_cases q:mc=j+1
  ·exact⟨g,0,by rw [if_pos q],.inr ⟨rfl,by omega⟩⟩
  ·exact⟨g,(j+1)*9,by rw [if_neg q];simp [Addr.add],.inl ⟨rfl,rfl,by omega⟩⟩
 have SL2:=fun W=>sl_from27 (some ⟨g,0,none⟩) M.length mc (j+1) W (by omega) hcap;rw [hb1] at SL2;have ek:(((j+1:Nat)):Int)=(j:Int)+1:=by omega
 simp only [ek] at SL2;clear ek hb1;go_upto_region 8 with fail;clear yl y0 y1 y2 y3 y4 xl x0 x1 x2;have hgw:g<w.heap.size:=by have:=h0.bm g rfl;omega
 go_cut [] from 7 (fun wq=>∃(va:Option Addr) (vc:Nat),Box wq w.heap.size [.slice na N.length nc,.slice va (M.eraseIdx j).length vc,.slice ya L.length yc]∧Box wq (w.heap.size+1) [ki,no,(j:Int),mn,d]∧Box wq W0.heap.size [xo.q.ki,xo.q.fr,(i:Int),xo.q.te,xo.q.ix,xo.q.be,.slice xo.ea xo.q.es.length xo.ec,xo.q.co,xo.q.ye]∧wq.ownsRow w1.heap.size 38 9 (.slice va (M.eraseIdx j).length vc) (M.eraseIdx j).length (zu_ (M.eraseIdx j))∧Chg (fun b=>b=w.heap.size) w1 wq)
 case first=>
  have hww:w.heap.size+1+1<w1.heap.size:=by omega
  have oM:=h0.m;have hBz:Below w1.heap.size w1 w1.drew:=(Below.refl _ _).drew;have hvz:w1.heap.size≤w1.drew.heap.size:=hBz.size;replace X:=X.below hBz;replace Y:=Y.below hBz;replace Q:=Q.below hBz;replace oM:=zd_ oM hBz;clear Z hT0 h0 hB HBL HOK KT1 HID HDI;refine wp_region_held_drew (S:=(fun w'=>Box w' (w.heap.size+1) [ki,no,(j:Int),mn,d])) (by kernel_rfl) Y (fun zb_=> ?_);generalize w1.drew=va at*;refine tkH 1 (.pointer (some ⟨w.heap.size,1,none⟩)) rfl ?_ ?_
  ·intro wx hSw;clear zb_ hSw;go_simp
  simp only [Act.put,sA_,sB_,sC_];refine tkH 3 (.pointer (some ⟨w.heap.size+1,2,none⟩)) rfl ?_ ?_
  ·intro wx hSw;clear zb_ hSw;go_simp
  simp only [Act.put,sA_,sB_,sC_];refine tkH 7 (.pointer (some ⟨w.heap.size,1,none⟩)) rfl ?_ ?_
  ·intro wx hSw;clear zb_ hSw;go_simp
  simp only [Act.put,sA_,sB_,sC_];refine tkH 9 (.pointer (some ⟨w.heap.size+1,2,none⟩)) rfl ?_ ?_
  ·intro wx hSw;clear zb_ hSw;go_simp
  simp only [Act.put,sA_,sB_,sC_];refine tkH 4 (.int .i64 (j:Int)) rfl ?_ ?_
  ·intro wx hSw;have e:=hSw.2.1 2 _ rfl;have e2:=hSw.1;clear zb_ hSw;go_simp
  simp only [Act.put,sA_,sB_,sC_];refine tkH 10 (.int .i64 (j:Int)) rfl ?_ ?_
  ·intro wx hSw;have e:=hSw.2.1 2 _ rfl;have e2:=hSw.1;clear zb_ hSw;go_simp
  simp only [Act.put,sA_,sB_,sC_];refine tkH 11 (.int .i64 ((j:Int)+1)) rfl ?_ ?_
  ·intro wx hSw;have e:IntKind.i64.wrap ((j:Int)+1)=(j:Int)+1:=by rw [IntKind.wrap_i64];omega
   clear zb_ hSw;go_simp
  simp only [Act.put,sA_,sB_,sC_]
  revert zb_
  revert hvz
  revert hBz
  revert oM
  revert Q
  revert Y
  revert X
  apply viaM (H:=fun v g0 ua uc=>Box v w.heap.size [.slice na N.length nc,.slice (some ⟨g,0,none⟩) M.length mc,.slice ya L.length yc]∧Box v (w.heap.size+1) [ki,no,(j:Int),mn,d]∧Box v W0.heap.size [xo.q.ki,xo.q.fr,(i:Int),xo.q.te,xo.q.ix,xo.q.be,.slice xo.ea xo.q.es.length xo.ec,xo.q.co,xo.q.ye]∧v.ownsRow lo 38 9 (.slice (some ⟨g,0,none⟩) M.length mc) M.length (zu_ M)∧v.ownsRow w1.heap.size 38 9 (.slice ua j uc) j (zu_ (M.take j))∧Below w1.heap.size w1 v∧w1.heap.size≤v.heap.size∧∀b,(.slice ua j uc:Value).ownBlock=some b→w1.heap.size≤b)
  case h2=>
   intro LEAF X Y Q oM hBz hvz zb_;refine rd3 0 2 8 rfl rfl rfl (fun K hK=> ?_) (fun K hK=> ?_) (fun K hK=> ?_)
   ·clear zb_;have oe:(va.alloc (.cells #[] 38)).ownsRow va.heap.size 38 9 (.slice (some ⟨va.heap.size,0,none⟩) 0 0) 0 []:=World.ownsRow_lit va #[] 0 (Nat.le_refl _) (by simp [maxLen]) (by simp);have hA:=zc_ va (.cells #[] 38);replace X:=X.below hA;replace Y:=Y.below hA;replace Q:=Q.below hA;replace oM:=zd_ oM hA;replace hBz:=za_ hBz hA;have hg0:w1.heap.size≤va.heap.size:=hvz;replace hvz:=Nat.le_trans hvz hA.size;clear hA;go_simp;refine hK.out _ _ Y (fun zb_=> ?_);clear hK K
    try (simp only [Act.put,sA_,sB_,sC_])
    generalize va.alloc (.cells #[] 38)=v1 at*;generalize va.heap.size=g0 at*;refine rd2 2 8 rfl rfl (fun K hK=> ?_) (fun K hK=> ?_)
    ·clear zb_;obtain⟨xl,x0,x1,x2,f0,f1,f2⟩:=X.c3f;go_simp;clear xl x0 x1 x2 f0 f1 f2;refine hK.out _ v1 Y (fun zb_=> ?_);clear hK K
     try (simp only [Act.put,sA_,sB_,sC_])
     refine tkH 5 (.slice (some ⟨g,0,none⟩) j mc) rfl ?_ ?_
     ·intro wx hSw;clear zb_ hSw;go_simp
     simp only [Act.put,sA_,sB_,sC_];refine rd2 6 8 rfl rfl (fun K hK=> ?_) (fun K hK=> ?_)
     ·clear zb_;have rk:=yh_ oM j (by omega);rw [yi_] at rk;refine zL_ _ _ _ rfl rfl w1.heap.size _ 0 [] rfl (zg_ oe hg0) _ j (zu_ (M.take j)) rfl (zP_.own rk) (yb_ _) (by omega) hvz ?_;intro u6 v3 o6 hgr hat;simp only [Nat.zero_add,List.nil_append] at o6;have hC6:=zm_ hgr;replace X:=hC6.box X (by intro q;injection q with q;have q:g0=w.heap.size:=q;omega);replace Y:=hC6.box Y (by intro q;injection q with q;have q:g0=w.heap.size+1:=q;omega);replace Q:=hC6.box Q (by intro q;injection q with q;have q:g0=W0.heap.size:=q;omega);replace oM:=hC6.owns oM (fun b hb hh=>by injection hb with hb;injection hh with hh;have hb:g=b:=hb;have hh:g0=b:=hh;omega);replace hBz:=hBz.trans (hC6.below (B:=w1.heap.size) hvz (fun b hb=>by injection hb with hb;have hb:g0=b:=hb;omega));replace hvz:=Nat.le_trans hvz hC6.size;have h6g:=ze_ o6;obtain⟨ua,uc,rfl⟩:=zf_ o6;clear hgr hat hC6 rk oe;refine hK.out _ v3 Y (fun zb_=> ?_);clear hK K
      try (simp only [Act.put,sA_,sB_,sC_])
      refine rd1 8 rfl (fun K hK=> ?_);clear zb_;obtain⟨xl,x0,x1,x2,f0,f1,f2⟩:=X.c3f;go_simp;clear xl x0 x1 x2 f0 f1 f2;refine hK.out _ v3 Y (fun zb_=> ?_);clear hK K
      try (simp only [Act.put,sA_,sB_,sC_])
      refine tkH 12 (.slice (some ⟨b,off,none⟩) (M.length-(j+1)) (mc-(j+1))) rfl ?_ ?_
      ·intro wx hSw;clear zb_ hSw;go_simp
      simp only [Act.put,sA_,sB_,sC_];exact LEAF v3 g0 ua uc ⟨X,Y,Q,oM,o6,hBz,hvz,h6g⟩
     ·clear zb_;obtain⟨xl,x0,x1,x2,f0,f1,f2⟩:=X.c3f;go_simp;clear xl x0 x1 x2 f0 f1 f2;refine hK.out _ v1 Y (fun zb_=> ?_);clear hK K
      try (simp only [Act.put,sA_,sB_,sC_])
      refine tkH 12 (.slice (some ⟨b,off,none⟩) (M.length-(j+1)) (mc-(j+1))) rfl ?_ ?_
      ·intro wx hSw;clear zb_ hSw;go_simp
      simp only [Act.put,sA_,sB_,sC_];refine rd1 6 rfl (fun K hK=> ?_);clear zb_;have rk:=yh_ oM j (by omega);rw [yi_] at rk;refine zL_ _ _ _ rfl rfl w1.heap.size _ 0 [] rfl (zg_ oe hg0) _ j (zu_ (M.take j)) rfl (zP_.own rk) (yb_ _) (by omega) hvz ?_;intro u6 v6 o6 hgr hat;simp only [Nat.zero_add,List.nil_append] at o6;have hC6:=zm_ hgr;replace X:=hC6.box X (by intro q;injection q with q;have q:g0=w.heap.size:=q;omega);replace Y:=hC6.box Y (by intro q;injection q with q;have q:g0=w.heap.size+1:=q;omega);replace Q:=hC6.box Q (by intro q;injection q with q;have q:g0=W0.heap.size:=q;omega);replace oM:=hC6.owns oM (fun b hb hh=>by injection hb with hb;injection hh with hh;have hb:g=b:=hb;have hh:g0=b:=hh;omega);replace hBz:=hBz.trans (hC6.below (B:=w1.heap.size) hvz (fun b hb=>by injection hb with hb;have hb:g0=b:=hb;omega));replace hvz:=Nat.le_trans hvz hC6.size;have h6g:=ze_ o6;obtain⟨ua,uc,rfl⟩:=zf_ o6;clear hgr hat hC6 rk oe;refine hK.out _ v6 Y (fun zb_=> ?_);clear hK K
      try (simp only [Act.put,sA_,sB_,sC_])
      exact LEAF v6 g0 ua uc ⟨X,Y,Q,oM,o6,hBz,hvz,h6g⟩
    ·clear zb_;obtain⟨xl,x0,x1,x2,f0,f1,f2⟩:=X.c3f;go_simp;clear xl x0 x1 x2 f0 f1 f2;refine hK.out _ v1 Y (fun zb_=> ?_);clear hK K
     try (simp only [Act.put,sA_,sB_,sC_])
     refine tkH 12 (.slice (some ⟨b,off,none⟩) (M.length-(j+1)) (mc-(j+1))) rfl ?_ ?_
     ·intro wx hSw;clear zb_ hSw;go_simp
     simp only [Act.put,sA_,sB_,sC_];refine rd1 2 rfl (fun K hK=> ?_);clear zb_;obtain⟨xl,x0,x1,x2,f0,f1,f2⟩:=X.c3f;go_simp;clear xl x0 x1 x2 f0 f1 f2;refine hK.out _ v1 Y (fun zb_=> ?_);clear hK K
     try (simp only [Act.put,sA_,sB_,sC_])
     refine tkH 5 (.slice (some ⟨g,0,none⟩) j mc) rfl ?_ ?_
     ·intro wx hSw;clear zb_ hSw;go_simp
     simp only [Act.put,sA_,sB_,sC_];refine rd1 6 rfl (fun K hK=> ?_);clear zb_;have rk:=yh_ oM j (by omega);rw [yi_] at rk;refine zL_ _ _ _ rfl rfl w1.heap.size _ 0 [] rfl (zg_ oe hg0) _ j (zu_ (M.take j)) rfl (zP_.own rk) (yb_ _) (by omega) hvz ?_;intro u6 v9 o6 hgr hat;simp only [Nat.zero_add,List.nil_append] at o6;have hC6:=zm_ hgr;replace X:=hC6.box X (by intro q;injection q with q;have q:g0=w.heap.size:=q;omega);replace Y:=hC6.box Y (by intro q;injection q with q;have q:g0=w.heap.size+1:=q;omega);replace Q:=hC6.box Q (by intro q;injection q with q;have q:g0=W0.heap.size:=q;omega);replace oM:=hC6.owns oM (fun b hb hh=>by injection hb with hb;injection hh with hh;have hb:g=b:=hb;have hh:g0=b:=hh;omega);replace hBz:=hBz.trans (hC6.below (B:=w1.heap.size) hvz (fun b hb=>by injection hb with hb;have hb:g0=b:=hb;omega));replace hvz:=Nat.le_trans hvz hC6.size;have h6g:=ze_ o6;obtain⟨ua,uc,rfl⟩:=zf_ o6;clear hgr hat hC6 rk oe;refine hK.out _ v9 Y (fun zb_=> ?_);clear hK K
     try (simp only [Act.put,sA_,sB_,sC_])
     exact LEAF v9 g0 ua uc ⟨X,Y,Q,oM,o6,hBz,hvz,h6g⟩
   ·clear zb_;obtain⟨xl,x0,x1,x2,f0,f1,f2⟩:=X.c3f;go_simp;clear xl x0 x1 x2 f0 f1 f2;refine hK.out _ va Y (fun zb_=> ?_);clear hK K
    try (simp only [Act.put,sA_,sB_,sC_])
    refine tkH 5 (.slice (some ⟨g,0,none⟩) j mc) rfl ?_ ?_
    ·intro wx hSw;clear zb_ hSw;go_simp
    simp only [Act.put,sA_,sB_,sC_];refine rd2 0 8 rfl rfl (fun K hK=> ?_) (fun K hK=> ?_)
    ·clear zb_;have oe:(va.alloc (.cells #[] 38)).ownsRow va.heap.size 38 9 (.slice (some ⟨va.heap.size,0,none⟩) 0 0) 0 []:=World.ownsRow_lit va #[] 0 (Nat.le_refl _) (by simp [maxLen]) (by simp);have hA:=zc_ va (.cells #[] 38);replace X:=X.below hA;replace Y:=Y.below hA;replace Q:=Q.below hA;replace oM:=zd_ oM hA;replace hBz:=za_ hBz hA;have hg0:w1.heap.size≤va.heap.size:=hvz;replace hvz:=Nat.le_trans hvz hA.size;clear hA;go_simp;refine hK.out _ _ Y (fun zb_=> ?_);clear hK K
     try (simp only [Act.put,sA_,sB_,sC_])
     generalize va.alloc (.cells #[] 38)=v11 at*;generalize va.heap.size=g0 at*;refine rd2 6 8 rfl rfl (fun K hK=> ?_) (fun K hK=> ?_)
     ·clear zb_;have rk:=yh_ oM j (by omega);rw [yi_] at rk;refine zL_ _ _ _ rfl rfl w1.heap.size _ 0 [] rfl (zg_ oe hg0) _ j (zu_ (M.take j)) rfl (zP_.own rk) (yb_ _) (by omega) hvz ?_;intro u6 v12 o6 hgr hat;simp only [Nat.zero_add,List.nil_append] at o6;have hC6:=zm_ hgr;replace X:=hC6.box X (by intro q;injection q with q;have q:g0=w.heap.size:=q;omega);replace Y:=hC6.box Y (by intro q;injection q with q;have q:g0=w.heap.size+1:=q;omega);replace Q:=hC6.box Q (by intro q;injection q with q;have q:g0=W0.heap.size:=q;omega);replace oM:=hC6.owns oM (fun b hb hh=>by injection hb with hb;injection hh with hh;have hb:g=b:=hb;have hh:g0=b:=hh;omega);replace hBz:=hBz.trans (hC6.below (B:=w1.heap.size) hvz (fun b hb=>by injection hb with hb;have hb:g0=b:=hb;omega));replace hvz:=Nat.le_trans hvz hC6.size;have h6g:=ze_ o6;obtain⟨ua,uc,rfl⟩:=zf_ o6;clear hgr hat hC6 rk oe;refine hK.out _ v12 Y (fun zb_=> ?_);clear hK K
      try (simp only [Act.put,sA_,sB_,sC_])
      refine rd1 8 rfl (fun K hK=> ?_);clear zb_;obtain⟨xl,x0,x1,x2,f0,f1,f2⟩:=X.c3f;go_simp;clear xl x0 x1 x2 f0 f1 f2;refine hK.out _ v12 Y (fun zb_=> ?_);clear hK K
      try (simp only [Act.put,sA_,sB_,sC_])
      refine tkH 12 (.slice (some ⟨b,off,none⟩) (M.length-(j+1)) (mc-(j+1))) rfl ?_ ?_
      ·intro wx hSw;clear zb_ hSw;go_simp
      simp only [Act.put,sA_,sB_,sC_];exact LEAF v12 g0 ua uc ⟨X,Y,Q,oM,o6,hBz,hvz,h6g⟩
     ·clear zb_;obtain⟨xl,x0,x1,x2,f0,f1,f2⟩:=X.c3f;go_simp;clear xl x0 x1 x2 f0 f1 f2;refine hK.out _ v11 Y (fun zb_=> ?_);clear hK K
      try (simp only [Act.put,sA_,sB_,sC_])
      refine tkH 12 (.slice (some ⟨b,off,none⟩) (M.length-(j+1)) (mc-(j+1))) rfl ?_ ?_
      ·intro wx hSw;clear zb_ hSw;go_simp
      simp only [Act.put,sA_,sB_,sC_];refine rd1 6 rfl (fun K hK=> ?_);clear zb_;have rk:=yh_ oM j (by omega);rw [yi_] at rk;refine zL_ _ _ _ rfl rfl w1.heap.size _ 0 [] rfl (zg_ oe hg0) _ j (zu_ (M.take j)) rfl (zP_.own rk) (yb_ _) (by omega) hvz ?_;intro u6 v15 o6 hgr hat;simp only [Nat.zero_add,List.nil_append] at o6;have hC6:=zm_ hgr;replace X:=hC6.box X (by intro q;injection q with q;have q:g0=w.heap.size:=q;omega);replace Y:=hC6.box Y (by intro q;injection q with q;have q:g0=w.heap.size+1:=q;omega);replace Q:=hC6.box Q (by intro q;injection q with q;have q:g0=W0.heap.size:=q;omega);replace oM:=hC6.owns oM (fun b hb hh=>by injection hb with hb;injection hh with hh;have hb:g=b:=hb;have hh:g0=b:=hh;omega);replace hBz:=hBz.trans (hC6.below (B:=w1.heap.size) hvz (fun b hb=>by injection hb with hb;have hb:g0=b:=hb;omega));replace hvz:=Nat.le_trans hvz hC6.size;have h6g:=ze_ o6;obtain⟨ua,uc,rfl⟩:=zf_ o6;clear hgr hat hC6 rk oe;refine hK.out _ v15 Y (fun zb_=> ?_);clear hK K
      try (simp only [Act.put,sA_,sB_,sC_])
      exact LEAF v15 g0 ua uc ⟨X,Y,Q,oM,o6,hBz,hvz,h6g⟩
    ·clear zb_;obtain⟨xl,x0,x1,x2,f0,f1,f2⟩:=X.c3f;go_simp;clear xl x0 x1 x2 f0 f1 f2;refine hK.out _ va Y (fun zb_=> ?_);clear hK K
     try (simp only [Act.put,sA_,sB_,sC_])
     refine tkH 12 (.slice (some ⟨b,off,none⟩) (M.length-(j+1)) (mc-(j+1))) rfl ?_ ?_
     ·intro wx hSw;clear zb_ hSw;go_simp
     simp only [Act.put,sA_,sB_,sC_];refine rd1 0 rfl (fun K hK=> ?_);clear zb_;have oe:(va.alloc (.cells #[] 38)).ownsRow va.heap.size 38 9 (.slice (some ⟨va.heap.size,0,none⟩) 0 0) 0 []:=World.ownsRow_lit va #[] 0 (Nat.le_refl _) (by simp [maxLen]) (by simp);have hA:=zc_ va (.cells #[] 38);replace X:=X.below hA;replace Y:=Y.below hA;replace Q:=Q.below hA;replace oM:=zd_ oM hA;replace hBz:=za_ hBz hA;have hg0:w1.heap.size≤va.heap.size:=hvz;replace hvz:=Nat.le_trans hvz hA.size;clear hA;go_simp;refine hK.out _ _ Y (fun zb_=> ?_);clear hK K
     try (simp only [Act.put,sA_,sB_,sC_])
     generalize va.alloc (.cells #[] 38)=v17 at*;generalize va.heap.size=g0 at*;refine rd1 6 rfl (fun K hK=> ?_);clear zb_;have rk:=yh_ oM j (by omega);rw [yi_] at rk;refine zL_ _ _ _ rfl rfl w1.heap.size _ 0 [] rfl (zg_ oe hg0) _ j (zu_ (M.take j)) rfl (zP_.own rk) (yb_ _) (by omega) hvz ?_;intro u6 v18 o6 hgr hat;simp only [Nat.zero_add,List.nil_append] at o6;have hC6:=zm_ hgr;replace X:=hC6.box X (by intro q;injection q with q;have q:g0=w.heap.size:=q;omega);replace Y:=hC6.box Y (by intro q;injection q with q;have q:g0=w.heap.size+1:=q;omega);replace Q:=hC6.box Q (by intro q;injection q with q;have q:g0=W0.heap.size:=q;omega);replace oM:=hC6.owns oM (fun b hb hh=>by injection hb with hb;injection hh with hh;have hb:g=b:=hb;have hh:g0=b:=hh;omega);replace hBz:=hBz.trans (hC6.below (B:=w1.heap.size) hvz (fun b hb=>by injection hb with hb;have hb:g0=b:=hb;omega));replace hvz:=Nat.le_trans hvz hC6.size;have h6g:=ze_ o6;obtain⟨ua,uc,rfl⟩:=zf_ o6;clear hgr hat hC6 rk oe;refine hK.out _ v18 Y (fun zb_=> ?_);clear hK K
     try (simp only [Act.put,sA_,sB_,sC_])
     exact LEAF v18 g0 ua uc ⟨X,Y,Q,oM,o6,hBz,hvz,h6g⟩
   ·clear zb_;obtain⟨xl,x0,x1,x2,f0,f1,f2⟩:=X.c3f;go_simp;clear xl x0 x1 x2 f0 f1 f2;refine hK.out _ va Y (fun zb_=> ?_);clear hK K
    try (simp only [Act.put,sA_,sB_,sC_])
    refine tkH 12 (.slice (some ⟨b,off,none⟩) (M.length-(j+1)) (mc-(j+1))) rfl ?_ ?_
    ·intro wx hSw;clear zb_ hSw;go_simp
    simp only [Act.put,sA_,sB_,sC_];refine rd2 0 2 rfl rfl (fun K hK=> ?_) (fun K hK=> ?_)
    ·clear zb_;have oe:(va.alloc (.cells #[] 38)).ownsRow va.heap.size 38 9 (.slice (some ⟨va.heap.size,0,none⟩) 0 0) 0 []:=World.ownsRow_lit va #[] 0 (Nat.le_refl _) (by simp [maxLen]) (by simp);have hA:=zc_ va (.cells #[] 38);replace X:=X.below hA;replace Y:=Y.below hA;replace Q:=Q.below hA;replace oM:=zd_ oM hA;replace hBz:=za_ hBz hA;have hg0:w1.heap.size≤va.heap.size:=hvz;replace hvz:=Nat.le_trans hvz hA.size;clear hA;go_simp;refine hK.out _ _ Y (fun zb_=> ?_);clear hK K
     try (simp only [Act.put,sA_,sB_,sC_])
     generalize va.alloc (.cells #[] 38)=v20 at*;generalize va.heap.size=g0 at*;refine rd1 2 rfl (fun K hK=> ?_);clear zb_;obtain⟨xl,x0,x1,x2,f0,f1,f2⟩:=X.c3f;go_simp;clear xl x0 x1 x2 f0 f1 f2;refine hK.out _ v20 Y (fun zb_=> ?_);clear hK K
     try (simp only [Act.put,sA_,sB_,sC_])
     refine tkH 5 (.slice (some ⟨g,0,none⟩) j mc) rfl ?_ ?_
     ·intro wx hSw;clear zb_ hSw;go_simp
     simp only [Act.put,sA_,sB_,sC_];refine rd1 6 rfl (fun K hK=> ?_);clear zb_;have rk:=yh_ oM j (by omega);rw [yi_] at rk;refine zL_ _ _ _ rfl rfl w1.heap.size _ 0 [] rfl (zg_ oe hg0) _ j (zu_ (M.take j)) rfl (zP_.own rk) (yb_ _) (by omega) hvz ?_;intro u6 v22 o6 hgr hat;simp only [Nat.zero_add,List.nil_append] at o6;have hC6:=zm_ hgr;replace X:=hC6.box X (by intro q;injection q with q;have q:g0=w.heap.size:=q;omega);replace Y:=hC6.box Y (by intro q;injection q with q;have q:g0=w.heap.size+1:=q;omega);replace Q:=hC6.box Q (by intro q;injection q with q;have q:g0=W0.heap.size:=q;omega);replace oM:=hC6.owns oM (fun b hb hh=>by injection hb with hb;injection hh with hh;have hb:g=b:=hb;have hh:g0=b:=hh;omega);replace hBz:=hBz.trans (hC6.below (B:=w1.heap.size) hvz (fun b hb=>by injection hb with hb;have hb:g0=b:=hb;omega));replace hvz:=Nat.le_trans hvz hC6.size;have h6g:=ze_ o6;obtain⟨ua,uc,rfl⟩:=zf_ o6;clear hgr hat hC6 rk oe;refine hK.out _ v22 Y (fun zb_=> ?_);clear hK K
     try (simp only [Act.put,sA_,sB_,sC_])
     exact LEAF v22 g0 ua uc ⟨X,Y,Q,oM,o6,hBz,hvz,h6g⟩
    ·clear zb_;obtain⟨xl,x0,x1,x2,f0,f1,f2⟩:=X.c3f;go_simp;clear xl x0 x1 x2 f0 f1 f2;refine hK.out _ va Y (fun zb_=> ?_);clear hK K
     try (simp only [Act.put,sA_,sB_,sC_])
     refine tkH 5 (.slice (some ⟨g,0,none⟩) j mc) rfl ?_ ?_
     ·intro wx hSw;clear zb_ hSw;go_simp
     simp only [Act.put,sA_,sB_,sC_];refine rd1 0 rfl (fun K hK=> ?_);clear zb_;have oe:(va.alloc (.cells #[] 38)).ownsRow va.heap.size 38 9 (.slice (some ⟨va.heap.size,0,none⟩) 0 0) 0 []:=World.ownsRow_lit va #[] 0 (Nat.le_refl _) (by simp [maxLen]) (by simp);have hA:=zc_ va (.cells #[] 38);replace X:=X.below hA;replace Y:=Y.below hA;replace Q:=Q.below hA;replace oM:=zd_ oM hA;replace hBz:=za_ hBz hA;have hg0:w1.heap.size≤va.heap.size:=hvz;replace hvz:=Nat.le_trans hvz hA.size;clear hA;go_simp;refine hK.out _ _ Y (fun zb_=> ?_);clear hK K
     try (simp only [Act.put,sA_,sB_,sC_])
     generalize va.alloc (.cells #[] 38)=v24 at*;generalize va.heap.size=g0 at*;refine rd1 6 rfl (fun K hK=> ?_);clear zb_;have rk:=yh_ oM j (by omega);rw [yi_] at rk;refine zL_ _ _ _ rfl rfl w1.heap.size _ 0 [] rfl (zg_ oe hg0) _ j (zu_ (M.take j)) rfl (zP_.own rk) (yb_ _) (by omega) hvz ?_;intro u6 v25 o6 hgr hat;simp only [Nat.zero_add,List.nil_append] at o6;have hC6:=zm_ hgr;replace X:=hC6.box X (by intro q;injection q with q;have q:g0=w.heap.size:=q;omega);replace Y:=hC6.box Y (by intro q;injection q with q;have q:g0=w.heap.size+1:=q;omega);replace Q:=hC6.box Q (by intro q;injection q with q;have q:g0=W0.heap.size:=q;omega);replace oM:=hC6.owns oM (fun b hb hh=>by injection hb with hb;injection hh with hh;have hb:g=b:=hb;have hh:g0=b:=hh;omega);replace hBz:=hBz.trans (hC6.below (B:=w1.heap.size) hvz (fun b hb=>by injection hb with hb;have hb:g0=b:=hb;omega));replace hvz:=Nat.le_trans hvz hC6.size;have h6g:=ze_ o6;obtain⟨ua,uc,rfl⟩:=zf_ o6;clear hgr hat hC6 rk oe;refine hK.out _ v25 Y (fun zb_=> ?_);clear hK K
     try (simp only [Act.put,sA_,sB_,sC_])
     exact LEAF v25 g0 ua uc ⟨X,Y,Q,oM,o6,hBz,hvz,h6g⟩
  case h1=>
   rintro v g0 ua uc ⟨X,Y,Q,oM,o6,hBz,hvz,h6g⟩;refine rd1 13 rfl (fun K hK=> ?_);have hRI:zP_ v 9 (.slice (some ⟨b,off,none⟩) (M.length-(j+1)) (mc-(j+1))) (M.length-(j+1)) (zu_ (M.drop (j+1))):=rowIn_from oM hb2;refine zL_ _ _ _ rfl rfl w1.heap.size _ j (zu_ (M.take j)) rfl o6 _ (M.length-(j+1)) (zu_ (M.drop (j+1))) rfl hRI (yb_ _) (by omega) hvz ?_;intro u9 w9 o9 hgr hat;rw [←flatM_append,←List.eraseIdx_eq_take_drop_succ,HLE.out] at o9;have hC9:=zm_ hgr;have hne:∀b,(.slice ua j uc:Value).ownBlock=some b→w1.heap.size≤b:=fun b q=>h6g b q;replace X:=hC9.box X (by intro q;have:=hne _ q;omega);replace Y:=hC9.box Y (by intro q;have:=hne _ q;omega);replace Q:=hC9.box Q (by intro q;have:=hne _ q;omega);replace hBz:=hBz.trans (hC9.below (B:=w1.heap.size) hvz hne);have hz9:=hC9.size;have h9g:=ze_ o9;obtain⟨va,vc,rfl⟩:=zf_ o9;clear hgr hat hC9 hRI o6 h6g hne oM;refine hK.out _ w9 Y (fun zb_=> ?_);clear hK K
   try (simp only [Act.put,sA_,sB_,sC_])
   refine tkH 14 (.pointer (some ⟨w.heap.size,1,none⟩)) rfl ?_ ?_
   ·intro wx hSw;clear zb_ hSw;go_simp
   simp only [Act.put,sA_,sB_,sC_];refine rd1 15 rfl (fun K hK=> ?_);clear zb_;obtain⟨xl,x0,x1,x2,f0,f1,f2⟩:=X.c3f;obtain⟨wz,hwz⟩:∃W,W=w9.setCell ⟨w.heap.size,1,none⟩ (.slice va (M.eraseIdx j).length vc):=⟨_,rfl⟩;have hCz:Chg (fun b=>b=w.heap.size) w9 wz:=by rw [hwz];exact Chg.setCell (S:=fun b=>b=w.heap.size) (Chg.refl _ _) rfl _
   have Xz:Box wz w.heap.size [.slice na N.length nc,.slice va (M.eraseIdx j).length vc,.slice ya L.length yc]:=by rw [hwz];exact X.set 1 _ (by simp)
   replace Y:=hCz.box Y (by omega);replace Q:=hCz.box Q (by omega);have oz:=hCz.owns o9 (fun b hb hh=>by have:=h9g b hb;have hh:b=w.heap.size:=hh;omega);have hRel:Chg (fun b=>b=w.heap.size) w1 wz:=(Chg.of_below hBz).trans hCz;go_simp;rw [←hwz];clear hwz hCz X xl x0 x1 x2 f0 f1 f2 o9 hBz;refine hK.out _ wz Y (fun zb_=> ?_);clear hK K
   try (simp only [Act.put,sA_,sB_,sC_])
   clear zb_;refine wpAnyH_done (by kernel_rfl) ?_ _;go_wp2_with fail;go_meet
   case rel=>exact⟨_,_,Xz,Y,Q,oz,hRel⟩
 case rest=>
  obtain⟨va,vc,X9,Y9,Q9,oz,hRel⟩:=hcut;generalize wc=wb at*;have hzc:=hRel.size;have Z9:=hRel.box Z (by omega);have hT9:=hT0.chg hRel (by omega);have HB6:Hid (Chg (fun b=>lo≤b∧b<hi) w wb):=(Chg.of_below hB).nextC hRel (fun b q=> .inr (by have q:b=w.heap.size:=q;omega));have h6:=h0.out j (hi':=wb.heap.size) (vm':= .slice va (M.eraseIdx j).length vc) (zg_ oz (by omega)) (hRel.mono fun b q=> .inr (by have q:b=w.heap.size:=q;omega)) (fun b hb=>zh_ oz b hb) (by omega);rcases HK.out with h | h;rotate_left
  ·subst h;clear HK hk4;have hKN:Hid (stN (N.map Nv.n) (M.map Mv.q) ⟨3,no,(j:Int),mn,d⟩=N.map Nv.n):=by
    show _=_;simp [stN]
   have hKM:Hid (stM (N.map Nv.n) (M.map Mv.q) ⟨3,no,(j:Int),mn,d⟩=(M.map Mv.q).eraseIdx j):=by
    show _=_;simp [stM]
   have hKL:Hid (stL (N.map Nv.n) (M.map Mv.q) L ⟨3,no,(j:Int),mn,d⟩=L):=by
    show _=_;simp [stL]
   obtain⟨ME,HME⟩:∃ME,Hid (ME=M.eraseIdx j):=⟨M.eraseIdx j,(rfl:_=_)⟩;rw [←HME.out] at h6 X9;clear oz hRel X Y Z Q Q9 hT0 h0 hB HLE SL1 SL2 hb2 KT1 hdi HDI HID;obtain⟨xl,x0,x1,x2⟩:=X9.c3;obtain⟨yl,y0,y1,y2,y3,y4⟩:=Y9.c5;obtain⟨W5,hW5,hC5,Z5⟩:=zq_ wb Z9 (.slice na N.length nc) (.slice va ME.length vc) (.slice ya L.length yc);have hz5:=hC5.size;have hFF:Hid (OwnC W5 lo W5.heap.size (.slice na N.length nc) (.slice va ME.length vc) (.slice ya L.length yc) N ME L):=(h6.keep hT9 hC5).hiN (by omega);clear h6;have hBF:Hid (Chg (fun b=>lo≤b∧b<hi) w W5):=HB6.out.nextC hC5 (fun b hb=> .inr (by have hb:b=w.heap.size+1+1:=hb;omega));clear hC5;obtain⟨zl,z0,z1,z2,f0,f1,f2⟩:=Z9.c3f;clear Z9;obtain⟨tl,t0,t1,t2⟩:=Z5.c3;clear Z5;unfold put3 at*;go_wp2;rw [←hW5];exact bodyPost_ret (v:= .tuple #[.agg #[.slice na N.length nc,.slice va ME.length vc,.slice ya L.length yc],true]) (by simp [results,Try.results160,go_sem,t0,t1,t2]) rfl ⟨.inl ⟨HOK.out,_,_,_,_,_,rfl,by rw [hKL.out];exact hFF.out,by rw [hKN.out],by rw [HME.out,hKM.out,map_erase]⟩,hBF.out⟩
  ·subst h;clear HK hk4;have hKN:Hid (stN (N.map Nv.n) (M.map Mv.q) ⟨2,no,(j:Int),mn,d⟩=(N.map Nv.n).set i (hmX N[i].n M[j].q)):=by
    show _=_;simp only [stN,atM_map hj,hdi,zS_ hil];simp
   have hKM:Hid (stM (N.map Nv.n) (M.map Mv.q) ⟨2,no,(j:Int),mn,d⟩=pushM ((M.map Mv.q).eraseIdx j) (hmA (hmU N[i].n M[j].q.te) M[j].q)):=by
    show _=_;simp only [stM,atM_map hj,hdi,zS_ hil];simp
   have hKL:Hid (stL (N.map Nv.n) (M.map Mv.q) L ⟨2,no,(j:Int),mn,d⟩=zQ_ L N[i].n (hmX N[i].n M[j].q)):=by
    show _=_;simp only [stL,atM_map hj,hdi,zS_ hil];simp
   obtain⟨gn,rfl⟩:∃gn,na=some ⟨gn,0,none⟩:=by
    rcases h0.n.2 with⟨_,h0⟩ | ⟨g,cap,cur,hv,_⟩
    ·omega
    ·simp only [Value.slice.injEq] at hv;exact⟨g,hv.1⟩
   have KT2:=fun W (q:Below wb.heap.size wb W)=>KT1 rfl W ((hRel.mono (fun b (hb:b=w.heap.size)=>(by omega:w.heap.size≤b))).trans (Chg.of_below q));obtain⟨ME,HME⟩:∃ME,Hid (ME=M.eraseIdx j):=⟨M.eraseIdx j,(rfl:_=_)⟩;have hMEl:ME.length≤60:=by rw [HME.out];have:=List.length_eraseIdx_le M j;omega
   rw [←HME.out] at h6 X9 oz;have hvm:∀b,(.slice va ME.length vc:Value).ownBlock=some b→w1.heap.size≤b∧b<wb.heap.size:=fun b hb=>⟨ze_ oz b hb,zh_ oz b hb⟩;clear oz hRel X Y Z Q hT0 h0 hB HLE SL1 SL2 hb2 KT1 hdi;obtain⟨yo,HYO⟩:∃yo,Hid (N[i]=yo):=⟨N[i],(rfl:N[i]=N[i])⟩;rw [HYO.out,HXO.out] at KT2 HID;simp only [HDI.out] at KT2;have KT:∀W,Below wb.heap.size wb W→Calls Try.prog 171 #[.agg yo,.agg #[xo.q.ki,xo.q.fr,(i:Int),xo.q.te,xo.q.ix,xo.q.be,.slice xo.ea xo.q.es.length xo.ec,xo.q.co,xo.q.ye]] W fun e w'=>(∃(x:Nv) (AB:List Mv) (qa:Option Addr) (qc:Nat),e= .returned (.tuple #[.agg x,.slice qa AB.length qc,true])∧HMF w' W.heap.size (hmX yo.n xo.q) (hmA (hmU yo.n xo.q.te) xo.q) x AB qa qc)∧Below W.heap.size W w':=fun W q=>(KT2 W q).mono (by
    rintro e w' ⟨hA,hB⟩;rcases hA with⟨h1,y,AB,qa,qc,rfl,h2,h3,h4,h5,h6,h7⟩ | ⟨h1,_⟩
    ·exact⟨⟨y,AB,qa,qc,rfl,⟨h2,h3,h4,h5,h6,h7⟩⟩,hB⟩
    ·cases h1)
   clear KT2;obtain⟨xl,x0,x1,x2⟩:=X9.c3;obtain⟨yl,y0,y1,y2,y3,y4⟩:=Y9.c5;go_upto_region 11 with fail;clear xl x0 x1 x2 yl y0 y1 y2 y3 y4 Y9;have X:=X9;have Q:=Q9;clear X9 Q9
   go_cut [7,8,9] from 10 (fun t7 t8 t9 wq=>∃(b7:Nat) (x:Nv) (AB:List Mv) (qa:Option Addr) (qc:Nat),t7= .pointer (some ⟨b7,0,none⟩)∧t8= .slice qa AB.length qc∧t9= .bool true∧Box wq b7 x∧wb.heap.size≤b7∧Below wb.heap.size wb wq∧HMF wq wb.heap.size (hmX yo.n xo.q) (hmA (hmU yo.n xo.q.te) xo.q) x AB qa qc)
   case first=>
    clear HBL hKN hKM hKL HID HDI HB6 HOK HME;have h0n:=h6.n;have hgb:gn<wb.heap.size:=zh_ h0n gn rfl;have hxw:=X.1;have hyw:=Q.1;clear h6 hT9 Z9;have hva:Below wb.heap.size wb wb.drew:=(Below.refl _ _).drew;replace X:=X.below hva;replace Q:=Q.below hva;replace h0n:=zd_ h0n hva;refine wp_region_held_drew (S:=(fun w'=>Box w' w.heap.size [.slice (some ⟨gn,0,none⟩) N.length nc,.slice va ME.length vc,.slice ya L.length yc]∧Box w' W0.heap.size [xo.q.ki,xo.q.fr,(i:Int),xo.q.te,xo.q.ix,xo.q.be,.slice xo.ea xo.q.es.length xo.ec,xo.q.co,xo.q.ye]∧w'.ownsRow lo 26 9 (.slice (some ⟨gn,0,none⟩) N.length nc) N.length (zH_ N))) (by kernel_rfl) ⟨X,Q,h0n⟩ (fun zb_=> ?_);generalize wb.drew=va at*;have hvs:wb.heap.size≤va.heap.size:=hva.size;refine tkH 0 (.pointer (some ⟨w.heap.size,0,none⟩)) rfl ?_ ?_
    ·intro wx hSw;clear zb_ hSw;go_simp
    simp only [Act.put,sA_,sB_,sC_];refine tkH 1 (.slice (some ⟨gn,0,none⟩) N.length nc) rfl ?_ ?_
    ·intro wx hSw;have e:=hSw.1.2.1 0 _ rfl;have e2:=hSw.1.1;clear zb_ hSw;go_simp
    simp only [Act.put,sA_,sB_,sC_];refine tkH 2 (.pointer (some ⟨W0.heap.size,2,none⟩)) rfl ?_ ?_
    ·intro wx hSw;clear zb_ hSw;go_simp
    simp only [Act.put,sA_,sB_,sC_];refine tkH 3 (.int .i64 (i:Int)) rfl ?_ ?_
    ·intro wx hSw;have e:=hSw.2.1.2.1 2 _ rfl;have e2:=hSw.2.1.1;clear zb_ hSw;go_simp
    simp only [Act.put,sA_,sB_,sC_];refine tkH 4 (.pointer (some ⟨gn,i*9,none⟩)) rfl ?_ ?_
    ·intro wx hSw;clear zb_ hSw;go_simp
    simp only [Act.put,sA_,sB_,sC_];refine tkH 5 (.agg yo) rfl ?_ ?_
    ·intro wx hSw;obtain⟨hgl,c0,c1,c2,c3,c4,c5,c6,c7,c8⟩:=zZ_ hSw.2.2 i hil rfl;rw [HYO.out] at c0 c1 c2 c3 c4 c5 c6 c7 c8;clear zb_ hSw;go_simp
    simp only [Act.put,sA_,sB_,sC_];refine tkH 6 (.agg #[xo.q.ki,xo.q.fr,(i:Int),xo.q.te,xo.q.ix,xo.q.be,.slice xo.ea xo.q.es.length xo.ec,xo.q.co,xo.q.ye]) rfl ?_ ?_
    ·intro wx hSw;obtain⟨sl,s0,s1,s2,s3,s4,s5,s6,s7,s8⟩:=hSw.2.1.e9;clear zb_ hSw;go_simp
    simp only [Act.put,sA_,sB_,sC_];refine rd2 7 12 rfl rfl (fun K hK=> ?_) (fun K hK=> ?_)
    ·clear zb_;go_simp;refine (KT va hva).mono ?_;rintro e w5 ⟨⟨x,AB,qa,qc,rfl,hF⟩,hb5⟩;replace X:=X.below hb5;replace Q:=Q.below hb5;replace h0n:=zd_ h0n hb5;replace hva:=za_ hva hb5;have hz5:=hb5.size;have hfb:∀b,(BN x b∨(Value.slice qa AB.length qc).ownBlock=some b)→b≠w5.heap.size:=fun b hb=>Nat.ne_of_lt (hF.in b hb).2;replace hF:HMF w5 wb.heap.size (hmX yo.n xo.q) (hmA (hmU yo.n xo.q.te) xo.q) x AB qa qc:=hF.mono hvs;clear hb5;refine hK.out _ w5 ⟨X,Q,h0n⟩ (fun zb_=> ?_);clear hK K
     try (simp only [Act.put,sA_,sB_,sC_])
     refine tkH 8 (.tuple #[.agg x,.slice qa AB.length qc,true]) rfl ?_ ?_
     ·intro wx hSw;clear zb_ hSw;go_simp
     simp only [Act.put,sA_,sB_,sC_];refine tkH 9 (.agg x) rfl ?_ ?_
     ·intro wx hSw;clear zb_ hSw;go_simp
     simp only [Act.put,sA_,sB_,sC_];refine tkH 10 (.slice qa AB.length qc) rfl ?_ ?_
     ·intro wx hSw;clear zb_ hSw;go_simp
     simp only [Act.put,sA_,sB_,sC_];refine tkH 11 (.bool true) rfl ?_ ?_
     ·intro wx hSw;clear zb_ hSw;go_simp
     simp only [Act.put,sA_,sB_,sC_];refine rd1 12 rfl (fun K hK=> ?_);clear zb_;have hBA:=zc_ w5 (.cells zN 26);have T:=Box.new w5 zN 26;have hza:(w5.alloc (.cells zN 26)).heap.size=w5.heap.size+1:=by simp
     replace X:=X.below hBA;replace Q:=Q.below hBA;replace h0n:=zd_ h0n hBA;replace hva:=za_ hva hBA;replace hF:HMF _ wb.heap.size (hmX yo.n xo.q) (hmA (hmU yo.n xo.q.te) xo.q) x AB qa qc:=hF.below hBA;go_simp;refine hK.out _ _ ⟨X,Q,h0n⟩ (fun zb_=> ?_);clear hK K
     try (simp only [Act.put,sA_,sB_,sC_])
     clear hBA;generalize hw6:w5.alloc (.cells zN 26)=w6 at*;generalize hb6:w5.heap.size=b6 at*;clear hw6;refine rd1 13 rfl (fun K hK=> ?_);clear zb_;obtain⟨W7,hW7,hC7,T7⟩:=zj_ w6 T x.n.id x.n.pe x.n.te x.n.vo (.slice x.la x.n.log.length x.lc) x.n.co x.n.ro (.slice x.va x.n.vs.length x.vc) (.slice x.ma x.n.mt.length x.mc);obtain⟨sl,s0,s1,s2,s3,s4,s5,s6,s7,s8⟩:=T.e9;obtain⟨f0,f1,f2,f3,f4,f5,f6,f7,f8⟩:=T.f9;replace X:=hC7.box X (by omega);replace Q:=hC7.box Q (by omega);replace h0n:=hC7.owns h0n (fun b hb hh=>by simp only [Value.ownBlock,Option.some.injEq] at hb;have hh:b=b6:=hh;omega);replace hF:HMF W7 wb.heap.size (hmX yo.n xo.q) (hmA (hmU yo.n xo.q.te) xo.q) x AB qa qc:=hF.chg hC7 (fun b hh hb=>hfb b hb hh);have hva7:=hva.trans (hC7.b1 (B:=wb.heap.size) (by omega) (by omega));have hz7:=hC7.size;unfold put9 at hW7;go_simp;rw [←hW7];clear hW7 hC7 sl s0 s1 s2 s3 s4 s5 s6 s7 s8 f0 f1 f2 f3 f4 f5 f6 f7 f8 T;refine hK.out _ W7 ⟨X,Q,h0n⟩ (fun zb_=> ?_);clear hK K
     try (simp only [Act.put,sA_,sB_,sC_])
     refine tkH 14 (.slice qa AB.length qc) rfl ?_ ?_
     ·intro wx hSw;clear zb_ hSw;go_simp
     simp only [Act.put,sA_,sB_,sC_];refine tkH 15 (.bool true) rfl ?_ ?_
     ·intro wx hSw;clear zb_ hSw;go_simp
     simp only [Act.put,sA_,sB_,sC_];clear zb_;refine wpAnyH_done (by kernel_rfl) ?_ _;go_wp2_with fail;go_meet
     case rel=>exact⟨b6,x,AB,qa,qc,rfl,rfl,rfl,T7,by omega,hva7,hF⟩
    ·clear zb_;have hBA:=zc_ va (.cells zN 26);have T:=Box.new va zN 26;have hza:(va.alloc (.cells zN 26)).heap.size=va.heap.size+1:=by simp
     replace X:=X.below hBA;replace Q:=Q.below hBA;replace h0n:=zd_ h0n hBA;replace hva:=za_ hva hBA;go_simp;refine hK.out _ _ ⟨X,Q,h0n⟩ (fun zb_=> ?_);clear hK K
     try (simp only [Act.put,sA_,sB_,sC_])
     clear hBA;generalize hw6:va.alloc (.cells zN 26)=v2 at*;generalize hb6:va.heap.size=b6 at*;clear hw6;refine rd1 7 rfl (fun K hK=> ?_);clear zb_;go_simp;refine (KT v2 hva).mono ?_;rintro e w5 ⟨⟨x,AB,qa,qc,rfl,hF⟩,hb5⟩;replace X:=X.below hb5;replace Q:=Q.below hb5;replace h0n:=zd_ h0n hb5;replace hva:=za_ hva hb5;have hz5:=hb5.size;replace T:=T.below hb5;have hfb:∀b,(BN x b∨(Value.slice qa AB.length qc).ownBlock=some b)→b≠b6:=fun b hb=>by have:=(hF.in b hb).1;omega
     replace hF:HMF w5 wb.heap.size (hmX yo.n xo.q) (hmA (hmU yo.n xo.q.te) xo.q) x AB qa qc:=hF.mono (by omega);clear hb5;refine hK.out _ w5 ⟨X,Q,h0n⟩ (fun zb_=> ?_);clear hK K
     try (simp only [Act.put,sA_,sB_,sC_])
     refine tkH 8 (.tuple #[.agg x,.slice qa AB.length qc,true]) rfl ?_ ?_
     ·intro wx hSw;clear zb_ hSw;go_simp
     simp only [Act.put,sA_,sB_,sC_];refine tkH 9 (.agg x) rfl ?_ ?_
     ·intro wx hSw;clear zb_ hSw;go_simp
     simp only [Act.put,sA_,sB_,sC_];refine tkH 10 (.slice qa AB.length qc) rfl ?_ ?_
     ·intro wx hSw;clear zb_ hSw;go_simp
     simp only [Act.put,sA_,sB_,sC_];refine tkH 11 (.bool true) rfl ?_ ?_
     ·intro wx hSw;clear zb_ hSw;go_simp
     simp only [Act.put,sA_,sB_,sC_];refine rd1 13 rfl (fun K hK=> ?_);clear zb_;obtain⟨W7,hW7,hC7,T7⟩:=zj_ w5 T x.n.id x.n.pe x.n.te x.n.vo (.slice x.la x.n.log.length x.lc) x.n.co x.n.ro (.slice x.va x.n.vs.length x.vc) (.slice x.ma x.n.mt.length x.mc);obtain⟨sl,s0,s1,s2,s3,s4,s5,s6,s7,s8⟩:=T.e9;obtain⟨f0,f1,f2,f3,f4,f5,f6,f7,f8⟩:=T.f9;replace X:=hC7.box X (by omega);replace Q:=hC7.box Q (by omega);replace h0n:=hC7.owns h0n (fun b hb hh=>by simp only [Value.ownBlock,Option.some.injEq] at hb;have hh:b=b6:=hh;omega);replace hF:HMF W7 wb.heap.size (hmX yo.n xo.q) (hmA (hmU yo.n xo.q.te) xo.q) x AB qa qc:=hF.chg hC7 (fun b hh hb=>hfb b hb hh);have hva7:=hva.trans (hC7.b1 (B:=wb.heap.size) (by omega) (by omega));have hz7:=hC7.size;unfold put9 at hW7;go_simp;rw [←hW7];clear hW7 hC7 sl s0 s1 s2 s3 s4 s5 s6 s7 s8 f0 f1 f2 f3 f4 f5 f6 f7 f8 T;refine hK.out _ W7 ⟨X,Q,h0n⟩ (fun zb_=> ?_);clear hK K
     try (simp only [Act.put,sA_,sB_,sC_])
     refine tkH 14 (.slice qa AB.length qc) rfl ?_ ?_
     ·intro wx hSw;clear zb_ hSw;go_simp
     simp only [Act.put,sA_,sB_,sC_];refine tkH 15 (.bool true) rfl ?_ ?_
     ·intro wx hSw;clear zb_ hSw;go_simp
     simp only [Act.put,sA_,sB_,sC_];clear zb_;refine wpAnyH_done (by kernel_rfl) ?_ _;go_wp2_with fail;go_meet
     case rel=>exact⟨b6,x,AB,qa,qc,rfl,rfl,rfl,T7,by omega,hva7,hF⟩
   case rest=>
    clear KT Q;obtain⟨b7,x,AB,qa,qc,rfl,rfl,rfl,T,hb7,hbq,hf⟩:=hcut;replace X:=X.below hbq;replace Z9:=Z9.below hbq;replace hT9:=hT9.below hbq;replace h6:=h6.below hbq;have HB7:Hid (Chg (fun b=>lo≤b∧b<hi) w wc):=HB6.out.trans (Chg.of_below hbq);have hzq:=hbq.size;clear HB6 hbq;have hxz:Hid (x.n=hmX yo.n xo.q):=hf.n;have hidx:Hid (x.n.id=(i:Int)):=by show x.n.id=_;rw [hxz.out];exact HID.out
    have hAB:Hid (AB.map Mv.q=hmA (hmU yo.n xo.q.te) xo.q):=hf.q;have hbare:=hf.b;have hlen:=hf.l;have hfin:=hf.in;have hpx:=hf.p;have hqo:=hf.o;clear hf HID HDI;have hnR:∀b,((.slice (some ⟨gn,0,none⟩) N.length nc:Value).ownBlock=some b∨(.slice ya L.length yc:Value).ownBlock=some b)→lo≤b∧b<hi:=fun b hb=>HBL.out b (hb.elim .inl fun q=> .inr (.inr q));have hx1:Hid (x.n=hmX N[i].n M[j].q):=by show x.n=_;rw [hxz.out,HYO.out,HXO.out]
    have hw01:W0.heap.size≤w1.heap.size:=by omega
    obtain⟨xl,x0,x1,x2⟩:=X.c3;obtain⟨tl,t0,t1,t2,t3,t4,t5,t6,t7,t8⟩:=T.e9;go_wp2_with fail;refine (l12SetV lo wb.heap.size _ _ _ N ME L x i hidx.out hil wc h6 hpx hzq hL1).mono ?_;rintro e w4 ⟨u,rfl,h4,hc4⟩;have hz4:=hc4.size;replace Z9:=hc4.box Z9 (by intro q;have:=hnR _ q;omega);replace hT9:=hT9.chg hc4 (by intro q;have:=hnR _ q;omega);have HB8:Hid (Chg (fun b=>lo≤b∧b<hi) w w4):=HB7.out.nextC hc4 (fun b q=> .inl (hnR b q));obtain⟨LA,HLA⟩:∃LA,Hid (LA=zQ_ L N[i].n x.n):=⟨zQ_ L N[i].n x.n,(rfl:_=_)⟩;rw [←HLA.out] at h4;obtain⟨ul,ulc,rfl⟩:=h4.shapes.2.2;have hq4:=hc4.owns hqo (fun b h1 h2=>by have:=hnR b h2;have:=hfin b (.inr h1);omega);clear h6 hpx HB7 X T xl x0 x1 x2 tl t0 t1 t2 t3 t4 t5 t6 t7 t8 hxz hidx hc4 hqo;go_wp2_with fail;refine (l12Net_any lo w4.heap.size _ _ _ (N.set i x) ME LA qa qc AB wb.heap.size w4 h4 hq4 (fun b h1 h2=>by have:=(hfin b (.inr h1)).1;have:=(hvm b h2).2;omega) (Nat.le_refl _) (fun i hi'=>⟨by
     obtain⟨c3,_,q,_⟩:=(zz_.bare (w:=w4) (Nat.le_refl 0) hbare).at i hi';exact⟨c3,q⟩,by rw [(hbare _ (List.getElem_mem hi')).2.2];simp⟩) hMEl hlen).mono ?_
    rintro e w6 ⟨u,P,rfl,h8,hP,hc6⟩;have hz6:=hc6.size;have HP:Hid (P.map Mv.q=_):=hP;clear hP;replace Z9:=hc6.box Z9 (by intro q;have:=(hvm _ q).1;omega);replace hT9:=hT9.chg hc6 (by intro q;have:=(hvm _ q).1;omega);have HB6:Hid (Chg (fun b=>lo≤b∧b<hi) w w6):=HB8.out.nextC hc6 (fun b q=> .inr (by have:=(hvm b q).1;omega));obtain⟨MA,HMA⟩:∃MA,Hid (MA=ME++P):=⟨ME++P,(rfl:_=_)⟩;rw [←HMA.out] at h8;obtain⟨um,umc,rfl⟩:=h8.shapes.2.1;clear h4 hc6 HB8 hq4 hbare hlen hfin hvm;obtain⟨W5,hW5,hC5,Z5⟩:=zq_ w6 Z9 (.slice (some ⟨gn,0,none⟩) N.length nc) (.slice um MA.length umc) (.slice ul LA.length ulc);have hz5:=hC5.size;have hFF:Hid (OwnC W5 lo W5.heap.size (.slice (some ⟨gn,0,none⟩) N.length nc) (.slice um MA.length umc) (.slice ul LA.length ulc) (N.set i x) MA LA):=(h8.keep hT9 hC5).hiN (by omega);clear h8;have hBF:Hid (Chg (fun b=>lo≤b∧b<hi) w W5):=HB6.out.nextC hC5 (fun b hb=> .inr (by have hb:b=w.heap.size+1+1:=hb;omega));clear hC5;obtain⟨zl,z0,z1,z2,f0,f1,f2⟩:=Z9.c3f;clear Z9;obtain⟨tl,t0,t1,t2⟩:=Z5.c3;clear Z5;unfold put3 at*;go_wp2;rw [←hW5];exact bodyPost_ret (v:= .tuple #[.agg #[.slice (some ⟨gn,0,none⟩) N.length nc,.slice um MA.length umc,.slice ul LA.length ulc],true]) (by simp [results,Try.results160,go_sem,t0,t1,t2]) rfl ⟨.inl ⟨HOK.out,_,_,_,_,_,rfl,by rw [hKL.out,←hx1.out,←HLA.out];exact hFF.out,by rw [hKN.out,map_set,hx1.out],by rw [HMA.out,hKM.out,List.map_append,HP.out,hAB.out,HYO.out,HXO.out,HME.out];unfold pushM;rw [←map_erase,List.length_map]⟩,hBF.out⟩
end Go.Proofs.Ytapfhhmimkkhnaa
