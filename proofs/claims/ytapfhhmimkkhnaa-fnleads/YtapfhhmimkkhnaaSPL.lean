/-
  A play: the specification's PlayCluster.
-/
import Derived.Test.YtapfhhmimkkhnaaNCToPLI
import Derived.Test.YtapfhhmimkkhnaaSHToOW
import Derived.Test.YtapfhhmimkkhnaaRF5ToP1
import Derived.Deep.Cut
import Derived.Deep.CutRange
import Derived.Deep.RegionHeld3
namespace Go.Proofs.Ytapfhhmimkkhnaa
open Go.RowKit Go.Maps
set_option maxHeartbeats 16000000
set_option linter.unusedVariables false
set_option maxRecDepth 100000
theorem one_newB (W:World) (x:Bool):∀j u,[Value.bool x][j]? =some u→(W.alloc (.cells #[x] 4)).cell? ((⟨W.heap.size,0,none⟩:Addr).add j)=some u:=by
 intro j u hj;have hb:=Box.new W #[x] 4;rw [show (⟨W.heap.size,0,none⟩:Addr).add j=⟨W.heap.size,j,none⟩ from by simp [Addr.add];omega];exact hb.2.1 j u hj
theorem OwnC.keepD {w w':World} {lo hi base n:Nat} {vn vm vl v:Value} {xs:List Value} {N:List Nv} {M:List Mv} {L:List Ld} (h:OwnC w lo hi vn vm vl N M L) (o:w.ownsRow base 4 1 v n xs) (hC:Chg (fun b=>v.ownBlock=some b) w w'):OwnC w' lo hi vn vm vl N M L:=by
 obtain⟨a,c,rfl⟩:=zf_ o;rcases o.2 with⟨e,_⟩ | ⟨g,cap,cur,e,_⟩
 ·simp only [Value.slice.injEq] at e;obtain⟨rfl,rfl,rfl⟩:=e;exact h.chg hC fun b hb=>by cases hb
 ·simp only [Value.slice.injEq] at e;obtain⟨rfl,_,rfl⟩:=e;exact h.keepT (TyB.of_own o) (by decide) (by decide) (by decide) (by decide) (by decide) (hC.mono fun b hb=>by simp only [Value.ownBlock,Option.some.injEq] at hb;exact hb.symm)
theorem Chg.below2 {w a b:World} {lo hi:Nat} (h:Below w.heap.size w a) (h':Chg (fun b=>lo≤b∧b<hi) a b) (hl:w.heap.size≤lo):Below w.heap.size w b:=h.trans (h'.below h.size (fun k hk=>Nat.le_trans hl hk.1))
theorem specPlay_any (p:Int) (l:List Sp) (v:Value) (w:World) (hS:zP_ w 5 v l.length (flatS l)) (hd:∀i (h:i<l.length),l[i].d.size≤1048576) (hl:l.length≤1048576):
  Calls Try.prog 119 #[p,v] w fun e w'=>PlA w' w.heap.size (plOk p l) p.toNat l e∧Below w.heap.size w w':=by
 obtain⟨sa,sc,hv⟩:∃sa sc,v= .slice sa l.length sc:=by obtain⟨_,a,c,h,_⟩:=hS;exact⟨a,c,h⟩
 have HSA:=fun (hne:l≠ [])=>stepsAt hS hne;clear hS;subst hv;obtain⟨W0,hW0,hB,Z,hz0⟩:=al1 w z3 60;have hT0:TyB W0 w.heap.size 60:=⟨_,by rw [hW0];exact heap_alloc_new w (.cells z3 60)⟩;have hzw:=hB.size;have KN:=specNewC_any p W0;have hno:∀wq:World,Box wq w.heap.size z3→Below w.heap.size w wq→True:=fun _ _ _=>trivial;clear hno;by_cases hok:plOk p l=true;rotate_left
 ·replace hok:plOk p l=false:=by simpa using hok
  rw [hok];have hcs:¬inB p 1 7=true∨200<l.length:=by
   unfold plOk at hok;simp only [Bool.and_eq_false_iff,decide_eq_false_iff_not] at hok;rcases hok with h | h
   ·exact .inl (by rw [h];simp)
   ·exact .inr (by omega)
  obtain⟨bb,hbb⟩:∃bb,inB p 1 7=bb:=⟨_,rfl⟩;rw [hbb] at KN hcs;clear hok HSA hd hT0;go_enter Try.func119,Try.ntmps119;go_upto_region 1 with fail;rw [←hW0];clear hW0;go_wp2_with fail;refine KN.mono ?_;rintro e w1 ⟨u,rfl,o1,hb1⟩;obtain⟨ua,uc,rfl⟩:=zf_ o1;have hBA:=zc_ w1 (.cells #[.slice ua (ncN bb p).length uc,(),()] 60);have Z1:=(Z.below hb1).below hBA;have hB1:=za_ (za_ hB hb1) hBA;clear KN Z hb1 hBA hB o1;generalize (ncN bb p).length=nn at*;go_upto_region 2 with fail;obtain⟨W3,hW3⟩:∃W,W=w1.alloc (.cells #[.slice ua nn uc,(),()] 60):=⟨_,rfl⟩;rw [←hW3] at Z1 hB1 ⊢;clear hW3;obtain⟨W5,hW5,hC5,Z5⟩:=zq_ W3 Z1 () () ();have hBF:Hid (Below w.heap.size w W5):=hB1.trans (hC5.b1 hB1.size (by omega));clear hC5;obtain⟨zl,z0,z1,z2,f0,f1,f2⟩:=Z1.c3f;clear Z1;obtain⟨tl,t0,t1,t2⟩:=Z5.c3;clear Z5;unfold put3 at*
  cases bb with
  | false=>
   clear hcs;go_wp2;rw [←hW5];exact bodyPost_ret (v:= .tuple #[.agg z3,(),false]) (by simp [results,Try.results119,go_sem,t0,t1,t2]) rfl ⟨.inr ⟨rfl,rfl⟩,hBF.out⟩
  | true=>
   have h2:200<l.length:=by rcases hcs with h | h;exact absurd rfl h;exact h
   clear hcs;have h3:(200:Int)<(l.length:Int):=by omega
   go_wp2;rw [←hW5];exact bodyPost_ret (v:= .tuple #[.agg z3,(),false]) (by simp [results,Try.results119,go_sem,t0,t1,t2]) rfl ⟨.inr ⟨rfl,rfl⟩,hBF.out⟩
 rw [hok];obtain⟨hib,hl2⟩:inB p 1 7=true∧l.length≤200:=by
  unfold plOk at hok;simpa only [Bool.and_eq_true,decide_eq_true_eq] using hok
 have hp:1≤p∧p≤7:=by simpa [inB] using hib
 obtain⟨pn,rfl⟩:=Int.eq_ofNat_of_zero_le (show 0≤p from by omega);rw [hib,show ncN true (pn:Int)=newNs pn pn from by simp [ncN]] at KN;rw [show ((pn:Int)).toNat=pn from by simp];have HPF:Hid (∀q:List Sp,PF pn (plGo (yc_ pn) q)):=fun q=>(newPF pn (by omega) (by omega)).go q;clear hok hib hp;go_enter Try.func119,Try.ntmps119;go_upto_region 1 with fail;rw [←hW0];clear hW0;go_wp2_with fail;refine KN.mono ?_;rintro e w1 ⟨u,rfl,o1,hb1⟩;obtain⟨ua,uc,rfl⟩:=zf_ o1;have hOC:OwnC w1 W0.heap.size w1.heap.size (.slice ua (newNs pn pn).length uc) (.slice none 0 0) (.slice none 0 0) (newNs pn pn) [] []:=
  OwnC.of (mid:=w1.heap.size) o1 (World.ownsRow_nil _ _ _ _) (World.ownsRow_nil _ _ _ _) ⟨hb1.size,fun i hi=>by
   rw [newNs_at];exact⟨⟨W0.heap.size,Nat.le_refl _,OwnN.nil _ _⟩,fun b hb=>by rcases hb with hb | hb | hb <;>cases hb⟩,fun i j h1 h2 _ b hb=>by rw [newNs_at] at hb;rcases hb with hb | hb | hb <;>cases hb⟩ (zz_.nil (Nat.le_refl _)) (fun b hb=>zh_ o1 b hb) (fun b hb=>by cases hb) (fun b hb=>by cases hb)
 obtain⟨nn,hnn⟩:∃nn,Hid ((newNs (pn:Int) pn).length=nn):=⟨_,rfl⟩;rw [hnn.out] at hOC ⊢;have hBA:=zc_ w1 (.cells #[.slice ua nn uc,(),()] 60);have X:=Box.new w1 #[.slice ua nn uc,(),()] 60;have hTx:TyB (w1.alloc (.cells #[.slice ua nn uc,(),()] 60)) w1.heap.size 60:=⟨_,heap_alloc_new w1 _⟩;have Z1:=(Z.below hb1).below hBA;have hT1:=(hT0.below hb1).below hBA;have hO1:=hOC.below hBA;have hB1:=za_ (za_ hB hb1) hBA;have hz1:=hb1.size;have hz2:(w1.alloc (.cells #[.slice ua nn uc,(),()] 60)).heap.size=w1.heap.size+1:=by simp
 clear KN Z hb1 hBA hB o1 hOC hT0;go_upto_region 2 with fail;obtain⟨W3,hW3⟩:∃W,W=w1.alloc (.cells #[.slice ua nn uc,(),()] 60):=⟨_,rfl⟩;rw [←hW3] at X hTx Z1 hT1 hO1 hB1 hz2 ⊢;clear hW3;have h3:¬(200:Int)<(l.length:Int):=by omega
 obtain⟨bc,hbc⟩:∃bc,Hid (w1.heap.size=bc):=⟨_,rfl⟩;rw [hbc.out] at X hTx ⊢;have hbc1:w.heap.size<bc:=by have:=hbc.out;omega
 have hO2:OwnC W3 w.heap.size W3.heap.size (.slice ua nn uc) (.slice none 0 0) (.slice none 0 0) (newNs pn pn) [] []:=(hO1.hiN (by omega)).loN (by omega);clear hbc hO1 hz2 hz1 hnn;go_wp2
 go_loopw [9,29] (fun dv i wr=>∃(k:Nat) (vn vm vl:Value) (N:List Nv) (M:List Mv),i= .int .i64 k∧k≤l.length∧Box wr bc [vn,vm,vl]∧Box wr w.heap.size z3∧TyB wr bc 60∧TyB wr w.heap.size 60∧OwnC wr w.heap.size wr.heap.size vn vm vl N M (plGo (yc_ pn) (l.take k)).l∧N.map Nv.n=(plGo (yc_ pn) (l.take k)).n∧M.map Mv.q=(plGo (yc_ pn) (l.take k)).m∧wr.ownsRow w.heap.size 4 1 dv k ((plDid (yc_ pn) (l.take k)).map Value.bool)∧Below w.heap.size w wr) (fun _ i _=>l.length-(intOf i).toNat)
 case atStart=>exact⟨0,_,_,_,newNs pn pn,[],rfl,Nat.zero_le _,X,Z1,hTx,hT1,hO2,rfl,rfl,World.ownsRow_nil _ _ _ _,hB1⟩
 case round=>
  clear X Z1 hTx hT1 hO2 hB1 h3;obtain⟨k,vn,vm,vl,N,M,rfl,hk,X,Z,hTx,hT0,hO,hN,hM,oD,hB⟩:=hrel;obtain⟨da,dc,rfl⟩:=zf_ oD;obtain⟨ck,hck⟩:∃ck,plGo (yc_ pn) (l.take k)=ck:=⟨_,rfl⟩;rw [hck] at hO hN hM;have HN:Hid (N.map Nv.n=ck.n):=hN;have HM:Hid (M.map Mv.q=ck.m):=hM;have HG:Hid (PF pn ck):=by show PF _ _;rw [←hck];exact HPF.out _
  have HCK:Hid (plGo (yc_ pn) (l.take k)=ck):=hck;clear hN hM hck;obtain⟨⟨na,nc,rfl⟩,⟨ma,mc,rfl⟩,ya,yc,rfl⟩:=hO.shapes;have hCS:CS N M ck.l:=cs_of_pg (p:=pn) (by rw [HN.out,HM.out];exact HG.out.g);have hrz:=hB.size;have hxr:=X.1;by_cases hlt:k<l.length
  ·obtain⟨sb,so,sc',hse,hsb,hcell⟩:=HSA (by intro e;rw [e] at hlt;simp at hlt);simp only [Value.slice.injEq,true_and] at hse;obtain⟨rfl,rfl⟩:=hse;obtain⟨y,HY⟩:∃y,Hid (l[k]=y):=⟨l[k],(rfl:l[k]=l[k])⟩;have c0:=hcell k hlt;rw [HY.out,←hB.cell (p:=⟨sb,so+k*5,none⟩) hsb,←hB.cell (p:=⟨sb,so+k*5+1,none⟩) hsb,←hB.cell (p:=⟨sb,so+k*5+2,none⟩) hsb,←hB.cell (p:=⟨sb,so+k*5+3,none⟩) hsb,←hB.cell (p:=⟨sb,so+k*5+4,none⟩) hsb] at c0;obtain⟨c0,c1,c2,c3,c4⟩:=c0;have hyd:y.d.size≤1048576:=by rw [←HY.out];exact hd k hlt
   clear hcell HSA;have HDS:Hid (plDid (yc_ pn) (l.take (k+1))=plDid (yc_ pn) (l.take k)++ [stB ck.n ck.m y]):=by
    show _=_;rw [take_snoc l k hlt,plDid_snoc,HCK.out,HY.out]
   have HGS:Hid (plGo (yc_ pn) (l.take (k+1))=plStep ck y):=by
    show _=_;rw [take_snoc l k hlt,plGo_snoc,HCK.out,HY.out]
   have HDL:Hid ((plDid (yc_ pn) (l.take k)).length=k):=by show _=_;rw [plDid_length,List.length_take];omega
   generalize plDid (yc_ pn) (l.take k)=DD at*;have hBA:=zc_ wr (.cells #[y.ki,y.no,y.k,y.ma,y.d] 154);have Y:=Box.new wr #[y.ki,y.no,y.k,y.ma,y.d] 154;have hbl:sb<wr.heap.size:=by omega
   go_upto_region 8 with fail;obtain⟨W4,hW4⟩:∃W,W=wr.alloc (.cells #[y.ki,y.no,y.k,y.ma,y.d] 154):=⟨_,rfl⟩;rw [←hW4] at hBA Y ⊢;have hzy:wr.heap.size<W4.heap.size:=by rw [hW4];simp
   clear hW4 c0 c1 c2 c3 c4;replace X:=X.below hBA;replace Z:=Z.below hBA;replace hTx:=hTx.below hBA;replace hT0:=hT0.below hBA;replace hO:=hO.below hBA;replace oD:=zd_ oD hBA;replace hB:=za_ hB hBA;clear hBA;have KO:=fun W (q:Below W4.heap.size W4 W)=>l12Own_any w.heap.size wr.heap.size _ _ _ N M ck.l W (hO.below q) hCS;obtain⟨ok,HOK⟩:∃ok,Hid (stB ck.n ck.m y=ok):=⟨stB ck.n ck.m y,(rfl:_=_)⟩;obtain⟨N2,hN2⟩:∃N2,Hid (stN ck.n ck.m y=N2):=⟨stN ck.n ck.m y,(rfl:_=_)⟩;obtain⟨M2,hM2⟩:∃M2,Hid (stM ck.n ck.m y=M2):=⟨stM ck.n ck.m y,(rfl:_=_)⟩;obtain⟨L2,hL2⟩:∃L2,Hid (stL ck.n ck.m ck.l y=L2):=⟨stL ck.n ck.m ck.l y,(rfl:_=_)⟩;have KS:∀(W:World) (lo hi:Nat) (xn xm xl:Value) (NA:List Nv) (MA:List Mv),OwnC W lo hi xn xm xl NA MA ck.l→hi≤W.heap.size→NA.map Nv.n=N.map Nv.n→MA.map Mv.q=M.map Mv.q→Calls Try.prog 141 #[.agg #[xn,xm,xl],.agg #[y.ki,y.no,y.k,y.ma,y.d]] W fun e w'=>StepA w' lo ok N2 M2 L2 e∧Chg (fun b=>lo≤b∧b<hi) W w':=fun W lo hi xn xm xl NA MA h1 h2 h3 h4=>by
    have hn:NA.map Nv.n=ck.n:=h3.trans HN.out;have hm:MA.map Mv.q=ck.m:=h4.trans HM.out;have K:=l12Step_any pn lo hi xn xm xl NA MA ck.l y.ki y.no y.k y.ma y.d W h1 h2 (by rw [hn,hm];exact HG.out) hyd;rw [hn,hm] at K;rw [show stB ck.n ck.m ⟨y.ki,y.no,y.k,y.ma,y.d⟩=ok from HOK.out,show stN ck.n ck.m ⟨y.ki,y.no,y.k,y.ma,y.d⟩=N2 from hN2.out,show stM ck.n ck.m ⟨y.ki,y.no,y.k,y.ma,y.d⟩=M2 from hM2.out,show stL ck.n ck.m ck.l ⟨y.ki,y.no,y.k,y.ma,y.d⟩=L2 from hL2.out] at K;exact K
   have hx4:=X.1
   go_cut [12,13] from 33 to 46 (fun t12 t13 wq=>∃(b12:Nat) (a1:Option Addr) (n1 d1:Nat) (a2:Option Addr) (n2 d2:Nat) (a3:Option Addr) (n3 d3:Nat),t12= .pointer (some ⟨b12,0,none⟩)∧t13= .bool ok∧Box wq b12 [.slice a1 n1 d1,.slice a2 n2 d2,.slice a3 n3 d3]∧W4.heap.size≤b12∧Below W4.heap.size W4 wq∧(ok=true→∃N' M',OwnC wq W4.heap.size wq.heap.size (.slice a1 n1 d1) (.slice a2 n2 d2) (.slice a3 n3 d3) N' M' L2∧N'.map Nv.n=N2∧M'.map Mv.q=M2))
   case first=>
    clear HOK hN2 hM2 hL2 HN HM HG HCK HDS HGS HDL hyd Z hTx hT0 hO oD hB hCS hd;have hva:Below W4.heap.size W4 W4.drew:=(Below.refl _ _).drew;replace X:=X.below hva;replace Y:=Y.below hva;refine wp_region_held_drew (S:=(fun w'=>Box w' bc [.slice na N.length nc,.slice ma M.length mc,.slice ya ck.l.length yc]∧Box w' wr.heap.size [y.ki,y.no,y.k,y.ma,y.d])) (by kernel_rfl) ⟨X,Y⟩ (fun zb_=> ?_);generalize W4.drew=va at*;refine tkH 0 (.agg #[.slice na N.length nc,.slice ma M.length mc,.slice ya ck.l.length yc]) rfl ?_ ?_
    ·intro wx hSw;have e:=hSw.1.2.1 0 _ rfl;have e3:=hSw.1.2.1 1 _ rfl;have e4:=hSw.1.2.1 2 _ rfl;have e2:=hSw.1.1;clear zb_ hSw;go_simp
    simp only [Act.put,sA_,sB_,sC_];refine tkH 2 (.agg #[y.ki,y.no,y.k,y.ma,y.d]) rfl ?_ ?_
    ·intro wx hSw;obtain⟨sl,s0,s1,s2,s3,s4⟩:=hSw.2.c5;clear zb_ hSw;go_simp
    simp only [Act.put,sA_,sB_,sC_];refine rd2 1 7 rfl rfl (fun K hK=> ?_) (fun K hK=> ?_)
    ·clear zb_;go_simp;refine (KO va hva).mono ?_;rintro e w5 ⟨⟨xn,xm,xl,NA,MA,rfl,hOA,hNA,hMA⟩,hb5⟩;obtain⟨⟨xa,xc,rfl⟩,⟨xb,xd,rfl⟩,xe,xf,rfl⟩:=hOA.shapes;replace X:=X.below hb5;replace Y:=Y.below hb5;have hva5:=za_ hva hb5;have hz5:=hb5.size;have hlo:=hva.size;clear hb5;refine hK.out _ w5 ⟨X,Y⟩ (fun zb_=> ?_);clear hK K
     try (simp only [Act.put,sA_,sB_,sC_])
     refine rd2 3 7 rfl rfl (fun K hK=> ?_) (fun K hK=> ?_)
     ·clear zb_;go_simp;refine (KS w5 _ _ _ _ _ NA MA hOA (Nat.le_refl _) hNA hMA).mono ?_;rintro e w6 ⟨hS,hC6⟩;have hS2:=stepA_any hS;clear hS;obtain⟨a1,n1,d1,a2,n2,d2,a3,n3,d3,rfl,hS⟩:=hS2;replace X:=hC6.box X (by intro q;have:=q.1;omega);replace Y:=hC6.box Y (by intro q;have:=q.1;omega);have hva6:=Chg.below2 hva5 hC6 (by omega);have hz6:=hC6.size;clear hOA;refine hK.out _ w6 ⟨X,Y⟩ (fun zb_=> ?_);clear hK K
      try (simp only [Act.put,sA_,sB_,sC_])
      refine tkH 4 (.tuple #[.agg #[.slice a1 n1 d1,.slice a2 n2 d2,.slice a3 n3 d3],ok]) rfl ?_ ?_
      ·intro wx hSw;clear zb_ hSw;go_simp
      simp only [Act.put,sA_,sB_,sC_];refine tkH 5 (.agg #[.slice a1 n1 d1,.slice a2 n2 d2,.slice a3 n3 d3]) rfl ?_ ?_
      ·intro wx hSw;clear zb_ hSw;go_simp
      simp only [Act.put,sA_,sB_,sC_];refine tkH 6 (.bool ok) rfl ?_ ?_
      ·intro wx hSw;clear zb_ hSw;go_simp
      simp only [Act.put,sA_,sB_,sC_];refine rd1 7 rfl (fun K hK=> ?_);clear zb_;have hBA:=zc_ w6 (.cells z3 60);have T:=Box.new w6 z3 60;have hTy:TyB (w6.alloc (.cells z3 60)) w6.heap.size 60:=⟨_,heap_alloc_new w6 _⟩;replace X:=X.below hBA;replace Y:=Y.below hBA;replace hS:ok=true→∃N' M',OwnC _ va.heap.size w6.heap.size (.slice a1 n1 d1) (.slice a2 n2 d2) (.slice a3 n3 d3) N' M' L2∧N'.map Nv.n=N2∧M'.map Mv.q=M2:=fun q=>by
       obtain⟨N',M',q1,q2,q3⟩:=hS q;exact⟨N',M',q1.below hBA,q2,q3⟩
      have hva7:=za_ hva6 hBA;clear hC6;go_simp;refine hK.out _ _ ⟨X,Y⟩ (fun zb_=> ?_);clear hK K
      try (simp only [Act.put,sA_,sB_,sC_])
      have hzb:w6.heap.size<(w6.alloc (.cells z3 60)).heap.size:=by simp
      generalize hw6:w6.alloc (.cells z3 60)=w7 at*;generalize hb6:w6.heap.size=b6 at*;clear hw6 hBA;refine rd1 8 rfl (fun K hK=> ?_);clear zb_;obtain⟨W7,hW7,hC7,T7⟩:=zq_ w7 T (.slice a1 n1 d1) (.slice a2 n2 d2) (.slice a3 n3 d3);have hz7:=hC7.size;obtain⟨zl,z0,z1,z2,f0,f1,f2⟩:=T.c3f;replace X:=hC7.box X (by omega);replace Y:=hC7.box Y (by omega);have hB7:=hva7.trans (hC7.b1 (B:=W4.heap.size) (by omega) (by omega));have HS7:Hid (ok=true→∃N' M',OwnC W7 W4.heap.size W7.heap.size (.slice a1 n1 d1) (.slice a2 n2 d2) (.slice a3 n3 d3) N' M' L2∧N'.map Nv.n=N2∧M'.map Mv.q=M2):=fun q=>by
       obtain⟨N',M',q1,q2,q3⟩:=hS q;exact⟨N',M',((q1.keep hTy hC7).hiN (by omega)).loN (by omega),q2,q3⟩
      clear hS hTy hC7 T;unfold put3 at hW7;go_simp;rw [←hW7];clear hW7 zl z0 z1 z2 f0 f1 f2;refine hK.out _ W7 ⟨X,Y⟩ (fun zb_=> ?_);clear hK K
      try (simp only [Act.put,sA_,sB_,sC_])
      refine tkH 9 (.bool ok) rfl ?_ ?_
      ·intro wx hSw;clear zb_ hSw;go_simp
      simp only [Act.put,sA_,sB_,sC_];clear zb_;refine wpAnyH_done (by kernel_rfl) ?_ _;go_wp2_with fail;go_meet
      case rel=>exact⟨b6,_,_,_,_,_,_,_,_,_,rfl,rfl,T7,by omega,hB7,HS7.out⟩
     ·clear zb_;have hBA:=zc_ w5 (.cells z3 60);have T:=Box.new w5 z3 60;have hTy:TyB (w5.alloc (.cells z3 60)) w5.heap.size 60:=⟨_,heap_alloc_new w5 _⟩;replace X:=X.below hBA;replace Y:=Y.below hBA;replace hOA:=hOA.below hBA;have hva7:=za_ hva5 hBA;have hhi:w5.heap.size≤(w5.alloc (.cells z3 60)).heap.size:=by simp
      go_simp;refine hK.out _ _ ⟨X,Y⟩ (fun zb_=> ?_);clear hK K
      try (simp only [Act.put,sA_,sB_,sC_])
      have hzb:w5.heap.size<(w5.alloc (.cells z3 60)).heap.size:=by simp
      generalize hw6:w5.alloc (.cells z3 60)=v6 at*;generalize hb6:w5.heap.size=b6 at*;clear hw6 hBA;refine rd1 3 rfl (fun K hK=> ?_);clear zb_;go_simp;refine (KS v6 _ _ _ _ _ NA MA hOA hhi hNA hMA).mono ?_;rintro e w6 ⟨hS,hC6⟩;have hS2:=stepA_any hS;clear hS;obtain⟨a1,n1,d1,a2,n2,d2,a3,n3,d3,rfl,hS⟩:=hS2;replace X:=hC6.box X (by intro q;have:=q.1;omega);replace Y:=hC6.box Y (by intro q;have:=q.1;omega);have hva6:=Chg.below2 hva7 hC6 (by omega);have hz6:=hC6.size;replace T:=hC6.box T (by intro q;have:=q.2;omega);replace hTy:=hTy.chg hC6 (by intro q;have:=q.2;omega);clear hC6 hOA;refine hK.out _ w6 ⟨X,Y⟩ (fun zb_=> ?_);clear hK K
      try (simp only [Act.put,sA_,sB_,sC_])
      refine tkH 4 (.tuple #[.agg #[.slice a1 n1 d1,.slice a2 n2 d2,.slice a3 n3 d3],ok]) rfl ?_ ?_
      ·intro wx hSw;clear zb_ hSw;go_simp
      simp only [Act.put,sA_,sB_,sC_];refine tkH 5 (.agg #[.slice a1 n1 d1,.slice a2 n2 d2,.slice a3 n3 d3]) rfl ?_ ?_
      ·intro wx hSw;clear zb_ hSw;go_simp
      simp only [Act.put,sA_,sB_,sC_];refine tkH 6 (.bool ok) rfl ?_ ?_
      ·intro wx hSw;clear zb_ hSw;go_simp
      simp only [Act.put,sA_,sB_,sC_];refine rd1 8 rfl (fun K hK=> ?_);clear zb_;obtain⟨W7,hW7,hC7,T7⟩:=zq_ w6 T (.slice a1 n1 d1) (.slice a2 n2 d2) (.slice a3 n3 d3);have hz7:=hC7.size;obtain⟨zl,z0,z1,z2,f0,f1,f2⟩:=T.c3f;replace X:=hC7.box X (by omega);replace Y:=hC7.box Y (by omega);have hB7:=hva6.trans (hC7.b1 (B:=W4.heap.size) (by omega) (by omega));have HS7:Hid (ok=true→∃N' M',OwnC W7 W4.heap.size W7.heap.size (.slice a1 n1 d1) (.slice a2 n2 d2) (.slice a3 n3 d3) N' M' L2∧N'.map Nv.n=N2∧M'.map Mv.q=M2):=fun q=>by
       obtain⟨N',M',q1,q2,q3⟩:=hS q;exact⟨N',M',((q1.keep hTy hC7).hiN (by omega)).loN (by omega),q2,q3⟩
      clear hS hTy hC7 T;unfold put3 at hW7;go_simp;rw [←hW7];clear hW7 zl z0 z1 z2 f0 f1 f2;refine hK.out _ W7 ⟨X,Y⟩ (fun zb_=> ?_);clear hK K
      try (simp only [Act.put,sA_,sB_,sC_])
      refine tkH 9 (.bool ok) rfl ?_ ?_
      ·intro wx hSw;clear zb_ hSw;go_simp
      simp only [Act.put,sA_,sB_,sC_];clear zb_;refine wpAnyH_done (by kernel_rfl) ?_ _;go_wp2_with fail;go_meet
      case rel=>exact⟨b6,_,_,_,_,_,_,_,_,_,rfl,rfl,T7,by omega,hB7,HS7.out⟩
    ·have hv4:=hva.size;clear zb_;have hBA:=zc_ va (.cells z3 60);have T:=Box.new va z3 60;have hTy:TyB (va.alloc (.cells z3 60)) va.heap.size 60:=⟨_,heap_alloc_new va _⟩;replace X:=X.below hBA;replace Y:=Y.below hBA;replace hva:=za_ hva hBA;go_simp;refine hK.out _ _ ⟨X,Y⟩ (fun zb_=> ?_);clear hK K
     try (simp only [Act.put,sA_,sB_,sC_])
     have hzb:va.heap.size<(va.alloc (.cells z3 60)).heap.size:=by simp
     generalize hw6:va.alloc (.cells z3 60)=v2 at*;generalize hb6:va.heap.size=b6 at*;clear hw6 hBA;refine rd1 1 rfl (fun K hK=> ?_);clear zb_;go_simp;refine (KO v2 hva).mono ?_;rintro e w5 ⟨⟨xn,xm,xl,NA,MA,rfl,hOA,hNA,hMA⟩,hb5⟩;obtain⟨⟨xa,xc,rfl⟩,⟨xb,xd,rfl⟩,xe,xf,rfl⟩:=hOA.shapes;replace X:=X.below hb5;replace Y:=Y.below hb5;have hva5:=za_ hva hb5;have hz5:=hb5.size;have hlo:=hva.size;replace T:=T.below hb5;replace hTy:=hTy.below hb5;clear hb5;refine hK.out _ w5 ⟨X,Y⟩ (fun zb_=> ?_);clear hK K
     try (simp only [Act.put,sA_,sB_,sC_])
     refine rd1 3 rfl (fun K hK=> ?_);clear zb_;go_simp;refine (KS w5 _ _ _ _ _ NA MA hOA (Nat.le_refl _) hNA hMA).mono ?_;rintro e w6 ⟨hS,hC6⟩;have hS2:=stepA_any hS;clear hS;obtain⟨a1,n1,d1,a2,n2,d2,a3,n3,d3,rfl,hS⟩:=hS2;replace X:=hC6.box X (by intro q;have:=q.1;omega);replace Y:=hC6.box Y (by intro q;have:=q.1;omega);have hva6:=Chg.below2 hva5 hC6 (by omega);have hz6:=hC6.size;replace T:=hC6.box T (by intro q;have:=q.1;omega);replace hTy:=hTy.chg hC6 (by intro q;have:=q.1;omega);clear hC6 hOA;refine hK.out _ w6 ⟨X,Y⟩ (fun zb_=> ?_);clear hK K
     try (simp only [Act.put,sA_,sB_,sC_])
     refine tkH 4 (.tuple #[.agg #[.slice a1 n1 d1,.slice a2 n2 d2,.slice a3 n3 d3],ok]) rfl ?_ ?_
     ·intro wx hSw;clear zb_ hSw;go_simp
     simp only [Act.put,sA_,sB_,sC_];refine tkH 5 (.agg #[.slice a1 n1 d1,.slice a2 n2 d2,.slice a3 n3 d3]) rfl ?_ ?_
     ·intro wx hSw;clear zb_ hSw;go_simp
     simp only [Act.put,sA_,sB_,sC_];refine tkH 6 (.bool ok) rfl ?_ ?_
     ·intro wx hSw;clear zb_ hSw;go_simp
     simp only [Act.put,sA_,sB_,sC_];refine rd1 8 rfl (fun K hK=> ?_);clear zb_;obtain⟨W7,hW7,hC7,T7⟩:=zq_ w6 T (.slice a1 n1 d1) (.slice a2 n2 d2) (.slice a3 n3 d3);have hz7:=hC7.size;obtain⟨zl,z0,z1,z2,f0,f1,f2⟩:=T.c3f;replace X:=hC7.box X (by omega);replace Y:=hC7.box Y (by omega);have hB7:=hva6.trans (hC7.b1 (B:=W4.heap.size) (by omega) (by omega));have HS7:Hid (ok=true→∃N' M',OwnC W7 W4.heap.size W7.heap.size (.slice a1 n1 d1) (.slice a2 n2 d2) (.slice a3 n3 d3) N' M' L2∧N'.map Nv.n=N2∧M'.map Mv.q=M2):=fun q=>by
      obtain⟨N',M',q1,q2,q3⟩:=hS q;exact⟨N',M',((q1.keep hTy hC7).hiN (by omega)).loN (by omega),q2,q3⟩
     clear hS hTy hC7 T;unfold put3 at hW7;go_simp;rw [←hW7];clear hW7 zl z0 z1 z2 f0 f1 f2;refine hK.out _ W7 ⟨X,Y⟩ (fun zb_=> ?_);clear hK K
     try (simp only [Act.put,sA_,sB_,sC_])
     refine tkH 9 (.bool ok) rfl ?_ ?_
     ·intro wx hSw;clear zb_ hSw;go_simp
     simp only [Act.put,sA_,sB_,sC_];clear zb_;refine wpAnyH_done (by kernel_rfl) ?_ _;go_wp2_with fail;go_meet
     case rel=>exact⟨b6,_,_,_,_,_,_,_,_,_,rfl,rfl,T7,by omega,hB7,HS7.out⟩
   case rest=>
    clear Y KO KS hCS;obtain⟨b12,a1,n1,d1,a2,n2,d2,a3,n3,d3,rfl,rfl,T,hb12,hbq,hSt⟩:=hcut;generalize wc=wq at*;replace X:=X.below hbq;replace Z:=Z.below hbq;replace hTx:=hTx.below hbq;replace hT0:=hT0.below hbq;replace hO:=hO.below hbq;replace oD:=zd_ oD hbq;replace hB:=za_ hB hbq;have hzq:=hbq.size;clear hbq
    cases ok with
    | true=>
     obtain⟨N',M',q1,q2,q3⟩:=hSt rfl;clear hSt hO;have Q2:Hid (N'.map Nv.n=N2):=q2;have Q3:Hid (M'.map Mv.q=M2):=q3;clear q2 q3;obtain⟨W7,hW7,hC7,X7⟩:=zq_ wq X (.slice a1 n1 d1) (.slice a2 n2 d2) (.slice a3 n3 d3);obtain⟨xl,x0,x1,x2,xf0,xf1,xf2⟩:=X.c3f;obtain⟨tl,t0,t1,t2⟩:=T.c3;have hz7:=hC7.size;have Z7:=hC7.box Z (by omega);have q7:=(((q1.keep hTx hC7).loN (show w.heap.size≤W4.heap.size from by omega)).hiN hz7);have hTx7:TyB W7 bc 60:=by
      obtain⟨cur,hc⟩:=hTx;rw [hW7];unfold put3;exact tyb_set (tyb_set (tyb_set ⟨cur,hc⟩ 0 _) 1 _) 2 _
     have hT7:=hT0.chg hC7 (by omega);have o7:=hC7.owns oD (fun b hb hh=>by have hh:b=bc:=hh;subst hh;exact hTx.ne oD (by decide) hb);have hB7:=hB.trans (hC7.b1 (B:=w.heap.size) (by omega) (by omega));unfold put3 at hW7;go_upto_region 11 with fail;rw [←hW7];clear hW7 hC7 X Z q1 hTx hT0 oD hB xl x0 x1 x2 xf0 xf1 xf2 tl t0 t1 t2 T;have X:=X7;have Z:=Z7;have hTx:=hTx7;have hT0:=hT7;have oD:=o7;have hB:=hB7;clear X7 Z7 hTx7 hT7 o7 hB7;go_wp2_with (at_builtin;refine zB_.go ?_);unfold zB_;obtain⟨i0,hi,hiz0,hizs,hizb⟩:=info_parts Try.info4;have hBA:=zc_ W7 (.cells #[true] 4);have hz8:W7.heap.size<(W7.alloc (.cells #[true] 4)).heap.size:=by simp
     have h1B:=one_newB W7 true;replace X:=X.below hBA;replace Z:=Z.below hBA;replace hTx:=hTx.below hBA;replace hT0:=hT0.below hBA;replace q7:=q7.below hBA;replace oD:=zd_ oD hBA;replace hB:=za_ hB hBA;clear hBA;refine wpList_append_own _ rfl _ _ 132 rfl w.heap.size 4 i0 (.bool false) 1 1 Try.underlying132 hi hiz0 hizs hizb rfl (by decide) (.slice da k dc) k (DD.map Value.bool) rfl oD ⟨W7.heap.size,0,none⟩ 1 1 [true] rfl rfl h1B (by intro u hu;simp at hu;subst hu;rfl) (by unfold maxLen;omega) (by omega) (by omega) ?_;intro dv w9 o9 hgr _;have hC9:=zm_ hgr;generalize W7.alloc (.cells #[true] 4)=W8 at*;have hz9:=hC9.size;have X9:=hC9.box X (fun q=>hTx.ne oD (by decide) q);have Z9:=hC9.box Z (fun q=>hT0.ne oD (by decide) q);have hTx9:=hTx.chg hC9 (fun q=>hTx.ne oD (by decide) q);have hT9:=hT0.chg hC9 (fun q=>hT0.ne oD (by decide) q);have hO9:=(q7.keepD oD hC9).hiN (show _≤w9.heap.size from by omega);have hB9:=hB.trans (hC9.below (B:=w.heap.size) (by omega) (fun b hb=>ze_ oD b hb));have HR:Hid (∃(k2:Nat) (vn vm vl:Value) (N:List Nv) (M:List Mv),.int .i64 ((k:Int)+1)=(.int .i64 k2:Value)∧k2≤l.length∧Box w9 bc [vn,vm,vl]∧Box w9 w.heap.size z3∧TyB w9 bc 60∧TyB w9 w.heap.size 60∧OwnC w9 w.heap.size w9.heap.size vn vm vl N M (plGo (yc_ pn) (l.take k2)).l∧N.map Nv.n=(plGo (yc_ pn) (l.take k2)).n∧M.map Mv.q=(plGo (yc_ pn) (l.take k2)).m∧w9.ownsRow w.heap.size 4 1 dv k2 ((plDid (yc_ pn) (l.take k2)).map Value.bool)∧Below w.heap.size w w9):=by
      refine⟨k+1,_,_,_,N',M',by go_num,by omega,X9,Z9,hTx9,hT9,?_,?_,?_,?_,hB9⟩
      ·rw [HGS.out];unfold plStep;rw [HOK.out,if_pos rfl];show OwnC _ _ _ _ _ _ _ _ (stL _ _ _ _);rw [hL2.out];exact hO9
      ·rw [HGS.out];unfold plStep;rw [HOK.out];exact (by rw [if_pos rfl];exact Q2.out.trans hN2.out.symm)
      ·rw [HGS.out];unfold plStep;rw [HOK.out];exact (by rw [if_pos rfl];exact Q3.out.trans hM2.out.symm)
      ·rw [HDS.out,HOK.out,List.map_append];exact o9
     clear X Z hTx hT0 oD hB o9 hC9 X9 Z9 hTx9 hT9 hO9 hB9 q7 h1B hgr hi hiz0 hizs hizb;go_wp2;go_roundw
     case rel=>exact HR.out
     case measure=>simp [intOf];omega
    | false=>
     clear hSt T;obtain⟨W7,hW7⟩:∃W,W=wq:=⟨_,rfl⟩;rw [←hW7] at X Z hTx hT0 hO oD hB hzq ⊢;clear hW7;have q7:=hO.hiN (show _≤W7.heap.size from by omega);clear hO;go_upto_region 11 with fail;go_wp2_with (at_builtin;refine zB_.go ?_);unfold zB_;obtain⟨i0,hi,hiz0,hizs,hizb⟩:=info_parts Try.info4;have hBA:=zc_ W7 (.cells #[false] 4);have hz8:W7.heap.size<(W7.alloc (.cells #[false] 4)).heap.size:=by simp
     have h1B:=one_newB W7 false;replace X:=X.below hBA;replace Z:=Z.below hBA;replace hTx:=hTx.below hBA;replace hT0:=hT0.below hBA;replace q7:=q7.below hBA;replace oD:=zd_ oD hBA;replace hB:=za_ hB hBA;clear hBA;refine wpList_append_own _ rfl _ _ 132 rfl w.heap.size 4 i0 (.bool false) 1 1 Try.underlying132 hi hiz0 hizs hizb rfl (by decide) (.slice da k dc) k (DD.map Value.bool) rfl oD ⟨W7.heap.size,0,none⟩ 1 1 [false] rfl rfl h1B (by intro u hu;simp at hu;subst hu;rfl) (by unfold maxLen;omega) (by omega) (by omega) ?_;intro dv w9 o9 hgr _;have hC9:=zm_ hgr;generalize W7.alloc (.cells #[false] 4)=W8 at*;have hz9:=hC9.size;have X9:=hC9.box X (fun q=>hTx.ne oD (by decide) q);have Z9:=hC9.box Z (fun q=>hT0.ne oD (by decide) q);have hTx9:=hTx.chg hC9 (fun q=>hTx.ne oD (by decide) q);have hT9:=hT0.chg hC9 (fun q=>hT0.ne oD (by decide) q);have hO9:=(q7.keepD oD hC9).hiN (show _≤w9.heap.size from by omega);have hB9:=hB.trans (hC9.below (B:=w.heap.size) (by omega) (fun b hb=>ze_ oD b hb));have HR:Hid (∃(k2:Nat) (vn vm vl:Value) (N:List Nv) (M:List Mv),.int .i64 ((k:Int)+1)=(.int .i64 k2:Value)∧k2≤l.length∧Box w9 bc [vn,vm,vl]∧Box w9 w.heap.size z3∧TyB w9 bc 60∧TyB w9 w.heap.size 60∧OwnC w9 w.heap.size w9.heap.size vn vm vl N M (plGo (yc_ pn) (l.take k2)).l∧N.map Nv.n=(plGo (yc_ pn) (l.take k2)).n∧M.map Mv.q=(plGo (yc_ pn) (l.take k2)).m∧w9.ownsRow w.heap.size 4 1 dv k2 ((plDid (yc_ pn) (l.take k2)).map Value.bool)∧Below w.heap.size w w9):=by
      refine⟨k+1,_,_,_,N,M,by go_num,by omega,X9,Z9,hTx9,hT9,?_,?_,?_,?_,hB9⟩
      ·rw [HGS.out];unfold plStep;rw [HOK.out,if_neg (by simp)];exact hO9
      ·rw [HGS.out];unfold plStep;rw [HOK.out];exact (by rw [if_neg (by simp)];exact HN.out)
      ·rw [HGS.out];unfold plStep;rw [HOK.out];exact (by rw [if_neg (by simp)];exact HM.out)
      ·rw [HDS.out,HOK.out,List.map_append];exact o9
     clear X Z hTx hT0 oD hB o9 hC9 X9 Z9 hTx9 hT9 hO9 hB9 q7 h1B hgr hi hiz0 hizs hizb;go_wp2;go_roundw
     case rel=>exact HR.out
     case measure=>simp [intOf];omega
  ·obtain rfl:k=l.length:=by omega
   rw [List.take_length] at HCK oD;clear HSA hd hlt hTx;have KO:=l12Own_any w.heap.size wr.heap.size _ _ _ N M ck.l wr hO hCS;obtain⟨xl,x0,x1,x2⟩:=X.c3;go_wp2_with fail;refine KO.mono ?_;rintro e w5 ⟨⟨xn,xm,xlv,NA,MA,rfl,hOA,hNA,hMA⟩,hb5⟩;obtain⟨⟨xa,xc,rfl⟩,⟨xb,xd,rfl⟩,xe,xf,rfl⟩:=hOA.shapes;have HNA:Hid (NA.map Nv.n=ck.n):=hNA.trans HN.out;have HMA:Hid (MA.map Mv.q=ck.m):=hMA.trans HM.out;clear hNA hMA KO hCS hO X xl x0 x1 x2;replace Z:=Z.below hb5;replace hT0:=hT0.below hb5;replace oD:=zd_ oD hb5;replace hB:=za_ hB hb5;have hz5:=hb5.size;clear hb5;obtain⟨W5,hW5,hC5,Z5⟩:=zq_ w5 Z (.slice xa NA.length xc) (.slice xb MA.length xd) (.slice xe ck.l.length xf);have hz6:=hC5.size;have hFF:Hid (OwnC W5 w.heap.size W5.heap.size (.slice xa NA.length xc) (.slice xb MA.length xd) (.slice xe ck.l.length xf) NA MA ck.l):=((hOA.keep hT0 hC5).hiN hz6).loN hrz;have o5:Hid (W5.ownsRow w.heap.size 4 1 (.slice da l.length dc) l.length ((plDid (yc_ pn) l).map Value.bool)):=hC5.owns oD (fun b hb hh=>by have hh:b=w.heap.size:=hh;subst hh;exact hT0.ne oD (by decide) hb);have hBF:Hid (Below w.heap.size w W5):=hB.trans (hC5.b1 (B:=w.heap.size) (by omega) (by omega));obtain⟨zl,z0,z1,z2,f0,f1,f2⟩:=Z.c3f;obtain⟨tl,t0,t1,t2⟩:=Z5.c3;clear hC5 Z hT0 oD hB Z5 hOA;unfold put3 at*;go_wp2;rw [←hW5];exact bodyPost_ret (v:= .tuple #[.agg #[.slice xa NA.length xc,.slice xb MA.length xd,.slice xe ck.l.length xf],.slice da l.length dc,true]) (by simp [results,Try.results119,go_sem,t0,t1,t2]) rfl ⟨.inl ⟨rfl,_,_,_,NA,MA,_,_,rfl,by rw [HCK.out];exact hFF.out,by rw [HCK.out];exact HNA.out,by rw [HCK.out];exact HMA.out,o5.out⟩,hBF.out⟩
end Go.Proofs.Ytapfhhmimkkhnaa
