/-
  A message delivered: impl's moveDeliver.
-/
import Derived.Test.YtapfhhmimkkhnaaGreatDLToMP
namespace Go.Proofs.YtapfhhmimkkhnaaGreat
open Go.RowKit Go.Maps
set_option maxHeartbeats 16000000
set_option linter.unusedVariables false
set_option maxRecDepth 100000
structure HMF (W:World) (base:Nat) (z:Nd) (A:List Ms) (x:Nv) (AB:List Mv) (qa:Option Addr) (qc:Nat):Prop where
 n:x.n=z
 p:PN W base x
 q:AB.map Mv.q=A
 b:∀a∈AB,a.ea=none∧a.ec=0∧a.q.es= []
 l:AB.length≤100
 o:W.ownsRow base 80 9 (.slice qa AB.length qc) AB.length (zo_ AB)
theorem HMF.below {W W':World} {base:Nat} {z:Nd} {A:List Ms} {x:Nv} {AB:List Mv} {qa:Option Addr} {qc:Nat} (h:HMF W base z A x AB qa qc) (hb:Below W.heap.size W W'):HMF W' base z A x AB qa qc:=⟨h.n,OwnN.below h.p hb,h.q,h.b,h.l,zd_ h.o hb⟩
theorem HMF.mono {W:World} {base b2:Nat} {z:Nd} {A:List Ms} {x:Nv} {AB:List Mv} {qa:Option Addr} {qc:Nat} (h:HMF W base z A x AB qa qc) (hb:b2≤base):HMF W b2 z A x AB qa qc:=⟨h.n,OwnN.mono h.p hb,h.q,h.b,h.l,zf_ h.o hb⟩
theorem HMF.chg {S:Nat→Prop} {W W':World} {base:Nat} {z:Nd} {A:List Ms} {x:Nv} {AB:List Mv} {qa:Option Addr} {qc:Nat} (h:HMF W base z A x AB qa qc) (hc:Chg S W W') (hs:∀b,S b→BN x b∨(Value.slice qa AB.length qc).ownBlock=some b→False):HMF W' base z A x AB qa qc:=⟨h.n,OwnN.chg h.p hc fun b h1 h2=>hs b h2 (.inl h1),h.q,h.b,h.l,hc.owns h.o fun b h1 h2=>hs b h2 (.inr h1)⟩
theorem HMF.in {W:World} {base:Nat} {z:Nd} {A:List Ms} {x:Nv} {AB:List Mv} {qa:Option Addr} {qc:Nat} (h:HMF W base z A x AB qa qc) (b:Nat) (hb:BN x b∨(Value.slice qa AB.length qc).ownBlock=some b):base≤b∧b<W.heap.size:=by
 rcases hb with hb | hb
 ·exact PN.in h.p b hb
 ·exact⟨zg_ h.o b hb,zh_ h.o b hb⟩
theorem implHMD (x:Nv) (m:Mv) (p:Nat) (c b2:Nat) (w:World) (hx:PN w c x) (hm:PM w b2 m) (hg:Gd x.n) (hp:x.n.pe=(p:Int)) (hgm:gMs p m.q=true) (hd:m.q.dst=x.n.id) (ok:Bool) (hok:ok=hmOk x.n m.q):
  Calls Tryz.prog 130 #[.agg x,.agg m] w fun e w'=>∃(y:Nv) (AB:List Mv) (qa:Option Addr) (qc:Nat),e= .returned (.tuple #[.agg y,.slice qa AB.length qc,ok])∧(ok=true→HMF w' w.heap.size (hmX x.n m.q) (hmA (hmU x.n m.q.te) m.q) y AB qa qc)∧Below w.heap.size w w':=by
 refine (implHMC x m p c b2 0 0 w hx hm hg hp hgm hd ok hok).mono ?_;rintro e w' ⟨hA,hB⟩;rcases hA with⟨h1,y,AB,qa,qc,rfl,h2,h3,h4,h5,h6,h7⟩ | ⟨h1,y,rfl⟩
 ·exact⟨y,AB,qa,qc,by rw [h1],fun _=>⟨h2,h3,h4,h5,h6,h7⟩,hB⟩
 ·exact⟨y,[],none,0,by rw [h1];rfl,fun q=>(by rw [h1] at q;cases q),hB⟩
theorem uh_ (p lo hi:Nat) (vn vm vl:Value) (N:List Nv) (M:List Mv) (L:List Ld) (ki no k mn:Int) (d:ByteArray) (w:World) (h:OwnC w lo hi vn vm vl N M L) (hh:hi≤w.heap.size) (hG:PG p (N.map Nv.n) (M.map Mv.q) L) (hki:ki=2):
  Calls Tryz.prog 78 #[.agg #[vn,vm,vl],.agg #[ki,no,k,mn,d]] w fun e w'=>yO_ w' lo (stB (N.map Nv.n) (M.map Mv.q) ⟨ki,no,k,mn,d⟩) (stN (N.map Nv.n) (M.map Mv.q) ⟨ki,no,k,mn,d⟩) (stM (N.map Nv.n) (M.map Mv.q) ⟨ki,no,k,mn,d⟩) (stL (N.map Nv.n) (M.map Mv.q) L ⟨ki,no,k,mn,d⟩) e∧Below lo w w':=by
 have hlh:=h.lohi;have HKI:Hid (ki=2):=hki;clear hki;obtain⟨⟨na,nc,rfl⟩,⟨ma,mc,rfl⟩,ya,yc,rfl⟩:=h.shapes;obtain⟨W0,hW0,hB,X,Y,Z,hz0⟩:=al3 w [.slice na N.length nc,.slice ma M.length mc,.slice ya L.length yc] 30 [ki,no,k,mn,d] 51 z3 30;have hzw:=hB.size;have hT0:TyB W0 (w.heap.size+1+1) 30:=⟨z3,by
  rw [hW0];have:=heap_alloc_new ((w.alloc (.cells #[.slice na N.length nc,.slice ma M.length mc,.slice ya L.length yc] 30)).alloc (.cells #[ki,no,k,mn,d] 51)) (.cells z3 30);simpa using this⟩
 have HBL:=h.hbl;have HB:stB (N.map Nv.n) (M.map Mv.q) ⟨ki,no,k,mn,d⟩=(isP k M.length&&hmOk (atN (N.map Nv.n) (atM (M.map Mv.q) k).dst) (atM (M.map Mv.q) k)):=by have hki:=HKI.out;subst hki;simp [stB]
 have h0:=h.below hB;have KH:=fun W=>xl_ k N.length M.length L.length na nc ma mc ya yc W;clear h;obtain⟨yl,y0,y1,y2,y3,y4⟩:=Y.c5;obtain⟨xl,x0,x1,x2⟩:=X.c3;go_enter Tryz.func78,Tryz.ntmps78;go_upto_region 1 with fail;rw [←hW0];clear hW0;go_wp2_with fail;refine (KH _).mono ?_;rintro e w1 ⟨rfl,hb1⟩;replace X:=X.below hb1;replace Y:=Y.below hb1;replace Z:=Z.below hb1;replace hT0:=hT0.below hb1;replace h0:=h0.below hb1;replace hB:=za_ hB hb1;have hz1:=hb1.size;clear KH hb1 yl y0 y1 y2 y3 y4 xl x0 x1 x2;obtain⟨yl,y0,y1,y2,y3,y4⟩:=Y.c5;obtain⟨xl,x0,x1,x2⟩:=X.c3;by_cases hP:isP k M.length=true;rotate_left
 ·replace hP:isP k M.length=false:=by simpa using hP
  rw [hP,Bool.false_and] at HB;rw [hP];clear h0;obtain⟨W5,hW5,hC5,Z5⟩:=zi_ w1 Z (.slice na N.length nc) (.slice ma M.length mc) (.slice ya L.length yc);have hBF:Hid (Below lo w W5):=(hB.trans (hC5.b1 (B:=w.heap.size) (by have:=hB.size;omega) (by omega))).mono (by omega);have HF:Hid (stB (N.map Nv.n) (M.map Mv.q) ⟨ki,no,k,mn,d⟩=false):=HB;clear hC5;obtain⟨zl,z0,z1,z2,f0,f1,f2⟩:=Z.c3f;clear Z;obtain⟨tl,t0,t1,t2⟩:=Z5.c3;clear Z5;unfold put3 at*;go_wp2;rw [←hW5];exact bodyPost_ret (v:= .tuple #[.agg #[.slice na N.length nc,.slice ma M.length mc,.slice ya L.length yc],false]) (by simp [results,Tryz.results78,go_sem,t0,t1,t2]) rfl ⟨.inr ⟨HF.out,_,_,_,_,_,_,_,_,_,rfl⟩,hBF.out⟩
 rw [hP];obtain⟨j,rfl,hj⟩:=yu_ hP;rw [hP,Bool.true_and,xm_ hj] at HB;have hgm:gMs p M[j].q=true:=hG.m M[j].q (List.mem_map.2 ⟨M[j],List.getElem_mem hj,rfl⟩);have hNp:N.length=p:=by have:=hG.n;rw [List.length_map] at this;exact this
 obtain⟨i,hdi,hil⟩:∃i:Nat,M[j].q.dst=(i:Int)∧i<N.length:=by
  obtain⟨_,_,a3,_⟩:=zt_ hgm;exact⟨M[j].q.dst.toNat,by omega,by omega⟩
 rw [hdi,zw_ hil] at HB;have HDI:Hid (M[j].q.dst=(i:Int)):=hdi;obtain⟨c,hcb,hpx,_⟩:=h0.cn.at i hil;obtain⟨c2,_,hpm,_⟩:=h0.cm.at j hj;have hgd:Gd N[i].n∧N[i].n.id=(i:Int)∧N[i].n.pe=(p:Int):=by
  obtain⟨a,b,c,_⟩:=hG.g i (by rw [List.length_map];exact hil);rw [List.getElem_map] at a b c;exact⟨a,b,c⟩
 have hKN:Hid (stN (N.map Nv.n) (M.map Mv.q) ⟨ki,no,(j:Int),mn,d⟩=(N.map Nv.n).set i (hmX N[i].n M[j].q)):=by
  show _=_;have hki:=HKI.out;subst hki;simp only [stN,xm_ hj,hdi,zw_ hil];simp
 have hKM:Hid (stM (N.map Nv.n) (M.map Mv.q) ⟨ki,no,(j:Int),mn,d⟩=xh_ ((M.map Mv.q).eraseIdx j) (hmA (hmU N[i].n M[j].q.te) M[j].q)):=by
  show _=_;have hki:=HKI.out;subst hki;simp only [stM,xm_ hj,hdi,zw_ hil];simp
 have hKL:Hid (stL (N.map Nv.n) (M.map Mv.q) L ⟨ki,no,(j:Int),mn,d⟩=zB_ L N[i].n (hmX N[i].n M[j].q)):=by
  show _=_;have hki:=HKI.out;subst hki;simp only [stL,xm_ hj,hdi,zw_ hil];simp
 have hL1:=hG.l;have hM1:=hG.m6;rw [List.length_map] at hM1;obtain⟨g,rfl⟩:∃g,na=some ⟨g,0,none⟩:=by
  rcases h0.n.2 with⟨_,h0⟩ | ⟨g,cap,cur,hv,_⟩
  ·omega
  ·simp only [Value.slice.injEq] at hv;exact⟨g,hv.1⟩
 obtain⟨gm,rfl⟩:∃gm,ma=some ⟨gm,0,none⟩:=by
  rcases h0.m.2 with⟨_,h0⟩ | ⟨g,cap,cur,hv,_⟩
  ·omega
  ·simp only [Value.slice.injEq] at hv;exact⟨g,hv.1⟩
 obtain⟨ok,hok⟩:∃ok,ok=hmOk N[i].n M[j].q:=⟨_,rfl⟩;have KT:=fun W (q:Below w1.heap.size w1 W)=>implHMD N[i] M[j] p c c2 W (OwnN.below hpx q) (zd_ hpm q) hgd.1 hgd.2.2 hgm (hdi.trans hgd.2.1.symm) ok hok;have HID:Hid ((hmX N[i].n M[j].q).id=(i:Int)):=(vo_ _ _).1.trans hgd.2.1;rw [←hok] at HB;clear hpx hpm hgd hgm hok hcb hP hdi hNp;have HBH:Hid _:=HB;clear HB;obtain⟨xo,HXO⟩:∃xo,Hid (N[i]=xo):=⟨N[i],(rfl:N[i]=N[i])⟩;obtain⟨mo,HMO⟩:∃mo,Hid (M[j]=mo):=⟨M[j],(rfl:M[j]=M[j])⟩;rw [HXO.out,HMO.out] at KT HID;rw [HMO.out] at HDI;simp only [HDI.out] at KT;clear yl y0 y1 y2 y3 y4 xl x0 x1 x2;obtain⟨yl,y0,y1,y2,y3,y4⟩:=Y.c5;obtain⟨xl,x0,x1,x2⟩:=X.c3;obtain⟨hgl,c0,c1,c2,c3,c4,c5,c6,c7,c8⟩:=xD_ h0.m j hj rfl;rw [HMO.out] at c0 c1 c2 c3 c4 c5 c6 c7 c8;rw [HDI.out] at c2;have hBA:=zb_ w1 (.cells #[mo.q.ki,mo.q.fr,(i:Int),mo.q.te,mo.q.ix,mo.q.be,.slice mo.ea mo.q.es.length mo.ec,mo.q.co,mo.q.ye] 80);have Q:=Box.new w1 #[mo.q.ki,mo.q.fr,(i:Int),mo.q.te,mo.q.ix,mo.q.be,.slice mo.ea mo.q.es.length mo.ec,mo.q.co,mo.q.ye] 80;have Xa:=X.below hBA;have Ya:=Y.below hBA;have Za:=Z.below hBA;have hTa:=hT0.below hBA;have ha0:=h0.below hBA;have hBa:=za_ hB hBA;have hbm:w1.heap.size+1=(w1.alloc (.cells #[mo.q.ki,mo.q.fr,(i:Int),mo.q.te,mo.q.ix,mo.q.be,.slice mo.ea mo.q.es.length mo.ec,mo.q.co,mo.q.ye] 80)).heap.size:=by simp
 clear Z hT0 hB;go_upto_region 4 with fail;obtain⟨w2,hw2⟩:∃W,W=w1.alloc (.cells #[mo.q.ki,mo.q.fr,(i:Int),mo.q.te,mo.q.ix,mo.q.be,.slice mo.ea mo.q.es.length mo.ec,mo.q.co,mo.q.ye] 80):=⟨_,rfl⟩;rw [←hw2] at hBA Q Xa Ya Za hTa ha0 hBa hbm ⊢;clear hw2 X Y h0 hgl c0 c1 c2 c3 c4 c5 c6 c7 c8 yl y0 y1 y2 y3 y4 xl x0 x1 x2;have X:=Xa;have Y:=Ya;clear Xa Ya;have KT2:=fun W (q:Below w2.heap.size w2 W)=>KT W (hBA.trans (q.mono (by omega)));clear KT hBA;have KT:=KT2;clear KT2
 go_cut [7,8,9] from 10 (fun t7 t8 t9 wq=>∃(b7:Nat) (x:Nv) (AB:List Mv) (qa:Option Addr) (qc:Nat),t7= .pointer (some ⟨b7,0,none⟩)∧t8= .slice qa AB.length qc∧t9= .bool ok∧Box wq b7 x∧w2.heap.size≤b7∧Below w2.heap.size w2 wq∧(ok=true→HMF wq w2.heap.size (hmX xo.n mo.q) (hmA (hmU xo.n mo.q.te) mo.q) x AB qa qc))
 case first=>
  clear HBH HBL hKN hKM hKL HID HDI;have h0n:=ha0.n;have hgb:g<w.heap.size:=by have:=ha0.bn g rfl;omega
  have hxw:=X.1;have hyw:=Q.1;have hbmw:w.heap.size<w1.heap.size:=by omega
  clear ha0 hTa Za hBa Y;have hva:Below w2.heap.size w2 w2.drew:=(Below.refl _ _).drew;replace X:=X.below hva;replace Q:=Q.below hva;replace h0n:=zd_ h0n hva;refine wp_region_held_drew (S:=(fun w'=>Box w' w.heap.size [.slice (some ⟨g,0,none⟩) N.length nc,.slice (some ⟨gm,0,none⟩) M.length mc,.slice ya L.length yc]∧Box w' w1.heap.size [mo.q.ki,mo.q.fr,(i:Int),mo.q.te,mo.q.ix,mo.q.be,.slice mo.ea mo.q.es.length mo.ec,mo.q.co,mo.q.ye]∧w'.ownsRow lo 42 9 (.slice (some ⟨g,0,none⟩) N.length nc) N.length (zI_ N))) (by kernel_rfl) ⟨X,Q,h0n⟩ (fun zc_=> ?_);generalize w2.drew=va at*;have hvs:w2.heap.size≤va.heap.size:=hva.size;refine tkH 0 (.pointer (some ⟨w.heap.size,0,none⟩)) rfl ?_ ?_
  ·intro wx hSw;clear zc_ hSw;go_simp
  simp only [Act.put,sA_,sB_,sC_];refine tkH 1 (.slice (some ⟨g,0,none⟩) N.length nc) rfl ?_ ?_
  ·intro wx hSw;have e:=hSw.1.2.1 0 _ rfl;have e2:=hSw.1.1;clear zc_ hSw;go_simp
  simp only [Act.put,sA_,sB_,sC_];refine tkH 2 (.pointer (some ⟨w1.heap.size,2,none⟩)) rfl ?_ ?_
  ·intro wx hSw;clear zc_ hSw;go_simp
  simp only [Act.put,sA_,sB_,sC_];refine tkH 3 (.int .i64 (i:Int)) rfl ?_ ?_
  ·intro wx hSw;have e:=hSw.2.1.2.1 2 _ rfl;have e2:=hSw.2.1.1;clear zc_ hSw;go_simp
  simp only [Act.put,sA_,sB_,sC_];refine tkH 4 (.pointer (some ⟨g,i*9,none⟩)) rfl ?_ ?_
  ·intro wx hSw;clear zc_ hSw;go_simp
  simp only [Act.put,sA_,sB_,sC_];refine tkH 5 (.agg xo) rfl ?_ ?_
  ·intro wx hSw;obtain⟨hgl,c0,c1,c2,c3,c4,c5,c6,c7,c8⟩:=zR_ hSw.2.2 i hil rfl;rw [HXO.out] at c0 c1 c2 c3 c4 c5 c6 c7 c8;clear zc_ hSw;go_simp
  simp only [Act.put,sA_,sB_,sC_];refine tkH 6 (.agg #[mo.q.ki,mo.q.fr,(i:Int),mo.q.te,mo.q.ix,mo.q.be,.slice mo.ea mo.q.es.length mo.ec,mo.q.co,mo.q.ye]) rfl ?_ ?_
  ·intro wx hSw;obtain⟨sl,s0,s1,s2,s3,s4,s5,s6,s7,s8⟩:=hSw.2.1.e9;clear zc_ hSw;go_simp
  simp only [Act.put,sA_,sB_,sC_];refine rd2 7 12 rfl rfl (fun K hK=> ?_) (fun K hK=> ?_)
  ·clear zc_;go_simp;refine (KT va hva).mono ?_;rintro e w5 ⟨x,AB,qa,qc,rfl,hF,hb5⟩;replace X:=X.below hb5;replace Q:=Q.below hb5;replace h0n:=zd_ h0n hb5;replace hva:=za_ hva hb5;have hz5:=hb5.size;have hfb:ok=true→∀b,(BN x b∨(Value.slice qa AB.length qc).ownBlock=some b)→b≠w5.heap.size:=fun q b hb=>Nat.ne_of_lt ((hF q).in b hb).2;replace hF:ok=true→HMF w5 w2.heap.size (hmX xo.n mo.q) (hmA (hmU xo.n mo.q.te) mo.q) x AB qa qc:=fun q=>(hF q).mono hvs;clear hb5;refine hK.out _ w5 ⟨X,Q,h0n⟩ (fun zc_=> ?_);clear hK K
   try (simp only [Act.put,sA_,sB_,sC_])
   refine tkH 8 (.tuple #[.agg x,.slice qa AB.length qc,ok]) rfl ?_ ?_
   ·intro wx hSw;clear zc_ hSw;go_simp
   simp only [Act.put,sA_,sB_,sC_];refine tkH 9 (.agg x) rfl ?_ ?_
   ·intro wx hSw;clear zc_ hSw;go_simp
   simp only [Act.put,sA_,sB_,sC_];refine tkH 10 (.slice qa AB.length qc) rfl ?_ ?_
   ·intro wx hSw;clear zc_ hSw;go_simp
   simp only [Act.put,sA_,sB_,sC_];refine tkH 11 (.bool ok) rfl ?_ ?_
   ·intro wx hSw;clear zc_ hSw;go_simp
   simp only [Act.put,sA_,sB_,sC_];refine rd1 12 rfl (fun K hK=> ?_);clear zc_;have hBA:=zb_ w5 (.cells zN 42);have T:=Box.new w5 zN 42;have hza:(w5.alloc (.cells zN 42)).heap.size=w5.heap.size+1:=by simp
   replace X:=X.below hBA;replace Q:=Q.below hBA;replace h0n:=zd_ h0n hBA;replace hva:=za_ hva hBA;replace hF:ok=true→HMF _ w2.heap.size (hmX xo.n mo.q) (hmA (hmU xo.n mo.q.te) mo.q) x AB qa qc:=fun q=>(hF q).below hBA;go_simp;refine hK.out _ _ ⟨X,Q,h0n⟩ (fun zc_=> ?_);clear hK K
   try (simp only [Act.put,sA_,sB_,sC_])
   clear hBA;generalize hw6:w5.alloc (.cells zN 42)=w6 at*;generalize hb6:w5.heap.size=b6 at*;clear hw6;refine rd1 13 rfl (fun K hK=> ?_);clear zc_;obtain⟨W7,hW7,hC7,T7⟩:=zj_ w6 T x.n.id x.n.pe x.n.te x.n.vo (.slice x.la x.n.log.length x.lc) x.n.co x.n.ro (.slice x.va x.n.vs.length x.vc) (.slice x.ma x.n.mt.length x.mc);obtain⟨sl,s0,s1,s2,s3,s4,s5,s6,s7,s8⟩:=T.e9;obtain⟨f0,f1,f2,f3,f4,f5,f6,f7,f8⟩:=T.f9;replace X:=hC7.box X (by omega);replace Q:=hC7.box Q (by omega);replace h0n:=hC7.owns h0n (fun b hb hh=>by simp only [Value.ownBlock,Option.some.injEq] at hb;have hh:b=b6:=hh;omega);replace hF:ok=true→HMF W7 w2.heap.size (hmX xo.n mo.q) (hmA (hmU xo.n mo.q.te) mo.q) x AB qa qc:=fun q=>(hF q).chg hC7 (fun b hh hb=>hfb q b hb hh);have hva7:=hva.trans (hC7.b1 (B:=w2.heap.size) (by omega) (by omega));have hz7:=hC7.size;unfold put9 at hW7;go_simp;rw [←hW7];clear hW7 hC7 sl s0 s1 s2 s3 s4 s5 s6 s7 s8 f0 f1 f2 f3 f4 f5 f6 f7 f8 T;refine hK.out _ W7 ⟨X,Q,h0n⟩ (fun zc_=> ?_);clear hK K
   try (simp only [Act.put,sA_,sB_,sC_])
   refine tkH 14 (.slice qa AB.length qc) rfl ?_ ?_
   ·intro wx hSw;clear zc_ hSw;go_simp
   simp only [Act.put,sA_,sB_,sC_];refine tkH 15 (.bool ok) rfl ?_ ?_
   ·intro wx hSw;clear zc_ hSw;go_simp
   simp only [Act.put,sA_,sB_,sC_];clear zc_;refine wpAnyH_done (by kernel_rfl) ?_ _;go_wp2_with fail;go_meet
   case rel=>exact⟨b6,x,AB,qa,qc,rfl,rfl,rfl,T7,by omega,hva7,hF⟩
  ·clear zc_;have hBA:=zb_ va (.cells zN 42);have T:=Box.new va zN 42;have hza:(va.alloc (.cells zN 42)).heap.size=va.heap.size+1:=by simp
   replace X:=X.below hBA;replace Q:=Q.below hBA;replace h0n:=zd_ h0n hBA;replace hva:=za_ hva hBA;go_simp;refine hK.out _ _ ⟨X,Q,h0n⟩ (fun zc_=> ?_);clear hK K
   try (simp only [Act.put,sA_,sB_,sC_])
   clear hBA;generalize hw6:va.alloc (.cells zN 42)=v2 at*;generalize hb6:va.heap.size=b6 at*;clear hw6;refine rd1 7 rfl (fun K hK=> ?_);clear zc_;go_simp;refine (KT v2 hva).mono ?_;rintro e w5 ⟨x,AB,qa,qc,rfl,hF,hb5⟩;replace X:=X.below hb5;replace Q:=Q.below hb5;replace h0n:=zd_ h0n hb5;replace hva:=za_ hva hb5;have hz5:=hb5.size;replace T:=T.below hb5;have hfb:ok=true→∀b,(BN x b∨(Value.slice qa AB.length qc).ownBlock=some b)→b≠b6:=fun q b hb=>by have:=((hF q).in b hb).1;omega
   replace hF:ok=true→HMF w5 w2.heap.size (hmX xo.n mo.q) (hmA (hmU xo.n mo.q.te) mo.q) x AB qa qc:=fun q=>(hF q).mono (by omega);clear hb5;refine hK.out _ w5 ⟨X,Q,h0n⟩ (fun zc_=> ?_);clear hK K
   try (simp only [Act.put,sA_,sB_,sC_])
   refine tkH 8 (.tuple #[.agg x,.slice qa AB.length qc,ok]) rfl ?_ ?_
   ·intro wx hSw;clear zc_ hSw;go_simp
   simp only [Act.put,sA_,sB_,sC_];refine tkH 9 (.agg x) rfl ?_ ?_
   ·intro wx hSw;clear zc_ hSw;go_simp
   simp only [Act.put,sA_,sB_,sC_];refine tkH 10 (.slice qa AB.length qc) rfl ?_ ?_
   ·intro wx hSw;clear zc_ hSw;go_simp
   simp only [Act.put,sA_,sB_,sC_];refine tkH 11 (.bool ok) rfl ?_ ?_
   ·intro wx hSw;clear zc_ hSw;go_simp
   simp only [Act.put,sA_,sB_,sC_];refine rd1 13 rfl (fun K hK=> ?_);clear zc_;obtain⟨W7,hW7,hC7,T7⟩:=zj_ w5 T x.n.id x.n.pe x.n.te x.n.vo (.slice x.la x.n.log.length x.lc) x.n.co x.n.ro (.slice x.va x.n.vs.length x.vc) (.slice x.ma x.n.mt.length x.mc);obtain⟨sl,s0,s1,s2,s3,s4,s5,s6,s7,s8⟩:=T.e9;obtain⟨f0,f1,f2,f3,f4,f5,f6,f7,f8⟩:=T.f9;replace X:=hC7.box X (by omega);replace Q:=hC7.box Q (by omega);replace h0n:=hC7.owns h0n (fun b hb hh=>by simp only [Value.ownBlock,Option.some.injEq] at hb;have hh:b=b6:=hh;omega);replace hF:ok=true→HMF W7 w2.heap.size (hmX xo.n mo.q) (hmA (hmU xo.n mo.q.te) mo.q) x AB qa qc:=fun q=>(hF q).chg hC7 (fun b hh hb=>hfb q b hb hh);have hva7:=hva.trans (hC7.b1 (B:=w2.heap.size) (by omega) (by omega));have hz7:=hC7.size;unfold put9 at hW7;go_simp;rw [←hW7];clear hW7 hC7 sl s0 s1 s2 s3 s4 s5 s6 s7 s8 f0 f1 f2 f3 f4 f5 f6 f7 f8 T;refine hK.out _ W7 ⟨X,Q,h0n⟩ (fun zc_=> ?_);clear hK K
   try (simp only [Act.put,sA_,sB_,sC_])
   refine tkH 14 (.slice qa AB.length qc) rfl ?_ ?_
   ·intro wx hSw;clear zc_ hSw;go_simp
   simp only [Act.put,sA_,sB_,sC_];refine tkH 15 (.bool ok) rfl ?_ ?_
   ·intro wx hSw;clear zc_ hSw;go_simp
   simp only [Act.put,sA_,sB_,sC_];clear zc_;refine wpAnyH_done (by kernel_rfl) ?_ _;go_wp2_with fail;go_meet
   case rel=>exact⟨b6,x,AB,qa,qc,rfl,rfl,rfl,T7,by omega,hva7,hF⟩
 case rest=>
  obtain⟨b7,x,AB,qa,qc,rfl,rfl,rfl,T,hb7,hbq,hF⟩:=hcut;replace X:=X.below hbq;replace Y:=Y.below hbq;replace Za:=Za.below hbq;replace hTa:=hTa.below hbq;replace ha0:=ha0.below hbq;replace hBa:=za_ hBa hbq;have hzq:=hbq.size;clear hbq KT Q;have HB:=HBH.out;clear HBH
  cases ok with
  | false=>
   replace HB:Hid _:=HB;clear hF ha0 T Y;obtain⟨xl,x0,x1,x2⟩:=X.c3;obtain⟨W5,hW5,hC5,Z5⟩:=zi_ wc Za (.slice (some ⟨g,0,none⟩) N.length nc) (.slice (some ⟨gm,0,none⟩) M.length mc) (.slice ya L.length yc);have hBF:Hid (Below lo w W5):=(hBa.trans (hC5.b1 (B:=w.heap.size) (by have:=hBa.size;omega) (by omega))).mono (by omega);have HF:Hid (stB (N.map Nv.n) (M.map Mv.q) ⟨ki,no,(j:Int),mn,d⟩=false):=HB.out;clear hC5;obtain⟨zl,z0,z1,z2,f0,f1,f2⟩:=Za.c3f;clear Za;obtain⟨tl,t0,t1,t2⟩:=Z5.c3;clear Z5;unfold put3 at*;go_wp2;rw [←hW5];exact bodyPost_ret (v:= .tuple #[.agg #[.slice (some ⟨g,0,none⟩) N.length nc,.slice (some ⟨gm,0,none⟩) M.length mc,.slice ya L.length yc],false]) (by simp [results,Tryz.results78,go_sem,t0,t1,t2]) rfl ⟨.inr ⟨HF.out,_,_,_,_,_,_,_,_,_,rfl⟩,hBF.out⟩
  | true=>
   have HOK:Hid (stB (N.map Nv.n) (M.map Mv.q) ⟨ki,no,(j:Int),mn,d⟩=true):=HB;have hf:=hF rfl;have hxz:Hid (x.n=hmX xo.n mo.q):=hf.n;have hidx:Hid (x.n.id=(i:Int)):=by show x.n.id=_;rw [hxz.out];exact HID.out
   have hAB:Hid (AB.map Mv.q=hmA (hmU xo.n mo.q.te) mo.q):=hf.q;have hbare:=hf.b;have hlen:=hf.l;have hfin:=hf.in;have hpx:=hf.p;have hqo:=hf.o;clear HB hF HID hf;have hiw:hi≤w2.heap.size:=by omega
   go_upto_region 7 with fail;have hva:Below wc.heap.size wc wc.drew:=(Below.refl _ _).drew;replace X:=X.below hva;replace Y:=Y.below hva;replace Za:=Za.below hva;replace hTa:=hTa.below hva;replace ha0:=ha0.below hva;replace T:=T.below hva;replace hpx:PN _ w2.heap.size x:=OwnN.below hpx hva;replace hqo:=zd_ hqo hva;replace hBa:=za_ hBa hva;have hvs:wc.heap.size≤wc.drew.heap.size:=hva.size;refine wp_region_held_drew (S:=(fun w'=>Box w' w.heap.size [.slice (some ⟨g,0,none⟩) N.length nc,.slice (some ⟨gm,0,none⟩) M.length mc,.slice ya L.length yc]∧Box w' (w.heap.size+1) [ki,no,(j:Int),mn,d]∧Box w' b7 x)) (by kernel_rfl) ⟨X,Y,T⟩ (fun zc_=> ?_);generalize wc.drew=va at*;refine tkH 0 (.agg #[.slice (some ⟨g,0,none⟩) N.length nc,.slice (some ⟨gm,0,none⟩) M.length mc,.slice ya L.length yc]) rfl ?_ ?_
   ·intro wx hSw;have e:=hSw.1.2.1 0 _ rfl;have e3:=hSw.1.2.1 1 _ rfl;have e4:=hSw.1.2.1 2 _ rfl;have e2:=hSw.1.1;clear zc_ hSw;go_simp
   simp only [Act.put,sA_,sB_,sC_];refine tkH 1 (.pointer (some ⟨w.heap.size+1,2,none⟩)) rfl ?_ ?_
   ·intro wx hSw;clear zc_ hSw;go_simp
   simp only [Act.put,sA_,sB_,sC_];refine tkH 2 (.int .i64 (j:Int)) rfl ?_ ?_
   ·intro wx hSw;have e:=hSw.2.1.2.1 2 _ rfl;have e2:=hSw.2.1.1;clear zc_ hSw;go_simp
   simp only [Act.put,sA_,sB_,sC_];refine tkH 4 (.agg x) rfl ?_ ?_
   ·intro wx hSw;obtain⟨sl,s0,s1,s2,s3,s4,s5,s6,s7,s8⟩:=hSw.2.2.e9;clear zc_ hSw;go_simp
   simp only [Act.put,sA_,sB_,sC_];refine tkH 6 (.slice qa AB.length qc) rfl ?_ ?_
   ·intro wx hSw;clear zc_ hSw;go_simp
   simp only [Act.put,sA_,sB_,sC_];refine rd1 3 rfl (fun K hK=> ?_);clear zc_;go_simp;refine (vW_ lo hi _ _ _ N M L j hj hM1 va ha0 (by omega)).mono ?_;rintro e w5 ⟨u,rfl,hub,h5,hc5⟩;have hz5:=hc5.size;have hm5:∀b,(.slice (some ⟨gm,0,none⟩) M.length mc:Value).ownBlock=some b→lo≤b∧b<hi:=fun b q=>HBL.out b (.inr (.inl q));replace X:=hc5.box X (by intro q;have:=hm5 _ q;omega);replace Y:=hc5.box Y (by intro q;have:=hm5 _ q;omega);replace Za:=hc5.box Za (by intro q;have:=hm5 _ q;omega);replace T:=hc5.box T (by intro q;have:=hm5 _ q;omega);replace hTa:=hTa.chg hc5 (by intro q;have:=hm5 _ q;omega);replace hpx:PN w5 w2.heap.size x:=OwnN.chg hpx hc5 (fun b h1 h2=>by have:=hm5 b h2;have:=hfin b (.inl h1);omega);replace hqo:=hc5.owns hqo (fun b h1 h2=>by have:=hm5 b h2;have:=hfin b (.inr h1);omega);have hB5:=(hBa.mono (show lo≤w.heap.size from by omega)).trans (hc5.below (by omega) fun b q=>(hm5 b q).1);obtain⟨ME,HME⟩:∃ME,Hid (ME=M.eraseIdx j):=⟨M.eraseIdx j,(rfl:_=_)⟩;have hMEl:ME.length≤60:=by rw [HME.out];have:=List.length_eraseIdx_le M j;omega
   rw [←HME.out] at h5;obtain⟨um1,umc1,rfl⟩:=h5.shapes.2.1;clear ha0 hc5 hBa;refine hK.out _ w5 ⟨X,Y,T⟩ (fun zc_=> ?_);clear hK K
   try (simp only [Act.put,sA_,sB_,sC_])
   refine rd1 5 rfl (fun K hK=> ?_);clear zc_;go_simp;refine (xX_ lo hi _ _ _ N ME L x i hidx.out (show i<N.length from by omega) w5 h5 (OwnN.mono hpx hiw) (by omega) hL1).mono ?_;rintro e w6 ⟨u,rfl,h6,hc6⟩;have hz6:=hc6.size;have hnR:∀b,((.slice (some ⟨g,0,none⟩) N.length nc:Value).ownBlock=some b∨(.slice ya L.length yc:Value).ownBlock=some b)→lo≤b∧b<hi:=fun b hb=>HBL.out b (hb.elim .inl fun q=> .inr (.inr q));replace X:=hc6.box X (by intro q;have:=hnR _ q;omega);replace Y:=hc6.box Y (by intro q;have:=hnR _ q;omega);replace Za:=hc6.box Za (by intro q;have:=hnR _ q;omega);replace T:=hc6.box T (by intro q;have:=hnR _ q;omega);replace hTa:=hTa.chg hc6 (by intro q;have:=hnR _ q;omega);replace hqo:=hc6.owns hqo (fun b h1 h2=>by have:=hnR b h2;have:=hfin b (.inr h1);omega);have hB6:=hB5.trans (hc6.below (by omega) fun b q=>(hnR b q).1);obtain⟨LA,HLA⟩:∃LA,Hid (LA=zB_ L N[i].n x.n):=⟨zB_ L N[i].n x.n,(rfl:_=_)⟩;rw [←HLA.out] at h6;obtain⟨ul,ulc,rfl⟩:=h6.shapes.2.2;clear h5 hc6 hpx hB5;refine hK.out _ w6 ⟨X,Y,T⟩ (fun zc_=> ?_);clear hK K
   try (simp only [Act.put,sA_,sB_,sC_])
   refine rd1 7 rfl (fun K hK=> ?_);clear zc_;go_simp;refine (xr_ lo w6.heap.size w6.heap.size _ _ _ (N.set i x) ME _ qa qc AB w2.heap.size w6 h6 hqo (zr_.bare (Nat.le_refl _) hbare) (Nat.le_refl _) hMEl hlen).mono ?_;rintro e w8 ⟨u,rfl,h8,hc8⟩;have hz8:=hc8.size;have hm8:∀b,(.slice um1 ME.length umc1:Value).ownBlock=some b→lo≤b∧b<hi:=fun b q=>hm5 b (hub b q);replace X:=hc8.box X (by intro q;have:=hm8 _ q;omega);replace Y:=hc8.box Y (by intro q;have:=hm8 _ q;omega);replace Za:=hc8.box Za (by intro q;have:=hm8 _ q;omega);replace T:=hc8.box T (by intro q;have:=hm8 _ q;omega);replace hTa:=hTa.chg hc8 (by intro q;have:=hm8 _ q;omega);have HB8:Hid (Below lo w w8):=hB6.trans (hc8.below (by omega) fun b q=>(hm8 b q).1);obtain⟨MA,HMA⟩:∃MA,Hid (MA=ME++AB.take (60-ME.length)):=⟨ME++AB.take (60-ME.length),(rfl:_=_)⟩;rw [←HMA.out] at h8;obtain⟨um,umc,rfl⟩:=h8.shapes.2.1;clear h6 hqo hbare hlen hc8 hB6 hfin;refine hK.out _ w8 ⟨X,Y,T⟩ (fun zc_=> ?_);clear hK K
   try (simp only [Act.put,sA_,sB_,sC_])
   refine rd1 8 rfl (fun K hK=> ?_);clear zc_;obtain⟨W5,hW5,hC5,Z5⟩:=zi_ w8 Za (.slice (some ⟨g,0,none⟩) N.length nc) (.slice um MA.length umc) (.slice ul LA.length ulc);have hz9:=hC5.size;replace X:=hC5.box X (by omega);replace Y:=hC5.box Y (by omega);replace T:=hC5.box T (by omega);have hFF:Hid (OwnC W5 lo W5.heap.size (.slice (some ⟨g,0,none⟩) N.length nc) (.slice um MA.length umc) (.slice ul LA.length ulc) (N.set i x) MA LA):=(h8.keep hTa hC5).hiN (by omega);clear h8;have hBF:Hid (Below lo w W5):=HB8.out.trans (hC5.b1 (B:=lo) (by have:=HB8.out.size;omega) (by omega));clear hC5;obtain⟨zl,z0,z1,z2,f0,f1,f2⟩:=Za.c3f;clear Za;unfold put3 at hW5;go_simp;rw [←hW5];clear hW5 zl z0 z1 z2 f0 f1 f2;refine hK.out _ W5 ⟨X,Y,T⟩ (fun zc_=> ?_);clear hK K
   try (simp only [Act.put,sA_,sB_,sC_])
   refine tkH 9 (.bool true) rfl ?_ ?_
   ·intro wx hSw;clear zc_ hSw;go_simp
   simp only [Act.put,sA_,sB_,sC_];clear zc_;refine wpAnyH_done (by kernel_rfl) ?_ _;obtain⟨tl,t0,t1,t2⟩:=Z5.c3;clear Z5;have hx1:Hid (x.n=hmX N[i].n M[j].q):=by show x.n=_;rw [hxz.out,HXO.out,HMO.out]
   clear hxz hidx;go_wp2;exact bodyPost_ret (v:= .tuple #[.agg #[.slice (some ⟨g,0,none⟩) N.length nc,.slice um MA.length umc,.slice ul LA.length ulc],true]) (by simp [results,Tryz.results78,go_sem,t0,t1,t2]) rfl ⟨.inl ⟨HOK.out,_,_,_,_,_,rfl,by rw [hKL.out,←hx1.out,←HLA.out];exact hFF.out,by rw [hKN.out,map_set,hx1.out],by rw [HMA.out,hKM.out,vb_,HME.out,vh_,hAB.out,HXO.out,HMO.out]⟩,hBF.out⟩
end Go.Proofs.YtapfhhmimkkhnaaGreat
