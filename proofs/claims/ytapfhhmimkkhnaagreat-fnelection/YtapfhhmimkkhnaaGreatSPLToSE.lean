/-
  A play: the specification's PlayCluster.
  A cluster marked, a row of bools spared.
  Steps in a row: rows of five cells; szClusterStepS, toClusterStepS, eqClusterStepS, markClusterStepS.
  Bools in a row: eqBoolS, markBoolS, heldBoolS.
  Both PlayClusters in one form; bounds.
  What all have committed: entries compared, the plain side, l12Common.
  What is the same is said to be: sameEntries, sameInts, sameBools, sameNodes.
-/
import Derived.Test.YtapfhhmimkkhnaaGreatSTToPLI
import Derived.Test.YtapfhhmimkkhnaaGreatSH4ToOW
import Derived.Test.YtapfhhmimkkhnaaGreatRF5ToP3
import Derived.Deep.Cut
import Derived.Deep.CutRange
import Derived.Deep.RegionHeld3
import Derived.Test.YtapfhhmimkkhnaaGreatM3bToCO
import Derived.Test.YtapfhhmimkkhnaaGreatCC3ToPP
import Derived.Test.YtapfhhmimkkhnaaGreatAToRF1
import Derived.OwnWalk
import Derived.Deep.QuietTactic
import Derived.BigQuiet
import Derived.Test.YtapfhhmimkkhnaaGreatNCToCC2
import Derived.Test.YtapfhhmimkkhnaaGreatA2ToKC3
import Derived.Test.YtapfhhmimkkhnaaGreatQ3ToQD
import Derived.Laws.StructEq
import Derived.Test.YtapfhhmimkkhnaaGreatP4ToA1
import Derived.Test.YtapfhhmimkkhnaaGreatCAToCE
namespace Go.Proofs.YtapfhhmimkkhnaaGreat
open Go.RowKit Go.Maps
set_option linter.unusedVariables false
set_option maxRecDepth 100000
set_option maxHeartbeats 16000000
theorem one_newB (W:World) (x:Bool):∀j u,[Value.bool x][j]? =some u→(W.alloc (.cells #[x] 4)).cell? ((⟨W.heap.size,0,none⟩:Addr).add j)=some u:=by
 intro j u hj;have hb:=Box.new W #[x] 4;rw [show (⟨W.heap.size,0,none⟩:Addr).add j=⟨W.heap.size,j,none⟩ from by simp [Addr.add];omega];exact hb.2.1 j u hj
theorem OwnC.keepD {w w':World} {lo hi base n:Nat} {vn vm vl v:Value} {xs:List Value} {N:List Nv} {M:List Mv} {L:List Ld} (h:OwnC w lo hi vn vm vl N M L) (o:w.ownsRow base 4 1 v n xs) (hC:Chg (fun b=>v.ownBlock=some b) w w'):OwnC w' lo hi vn vm vl N M L:=by
 obtain⟨a,c,rfl⟩:=ze_ o;rcases o.2 with⟨e,_⟩ | ⟨g,cap,cur,e,_⟩
 ·simp only [Value.slice.injEq] at e;obtain⟨rfl,rfl,rfl⟩:=e;exact h.chg hC fun b hb=>by cases hb
 ·simp only [Value.slice.injEq] at e;obtain⟨rfl,_,rfl⟩:=e;exact h.keepT (TyB.of_own o) (by decide) (by decide) (by decide) (by decide) (by decide) (hC.mono fun b hb=>by simp only [Value.ownBlock,Option.some.injEq] at hb;exact hb.symm)
theorem Chg.below2 {w a b:World} {lo hi:Nat} (h:Below w.heap.size w a) (h':Chg (fun b=>lo≤b∧b<hi) a b) (hl:w.heap.size≤lo):Below w.heap.size w b:=h.trans (h'.below h.size (fun k hk=>Nat.le_trans hl hk.1))
theorem specPlay_any (p:Int) (l:List Sp) (v:Value) (w:World) (hS:yi_ w 5 v l.length (flatS l)) (hd:∀i (h:i<l.length),l[i].d.size≤1048576) (hl:l.length≤1048576):
  Calls Tryz.prog 19 #[p,v] w fun e w'=>PlA w' w.heap.size (plOk p l) p.toNat l e∧Below w.heap.size w w':=by
 obtain⟨sa,sc,hv⟩:∃sa sc,v= .slice sa l.length sc:=by obtain⟨_,a,c,h,_⟩:=hS;exact⟨a,c,h⟩
 have HSA:=fun (hne:l≠ [])=>stepsAt hS hne;clear hS;subst hv;obtain⟨W0,hW0,hB,Z,hz0⟩:=al1 w z3 30;have hT0:TyB W0 w.heap.size 30:=⟨_,by rw [hW0];exact heap_alloc_new w (.cells z3 30)⟩;have hzw:=hB.size;have KN:=specNewC_any p W0;have hno:∀wq:World,Box wq w.heap.size z3→Below w.heap.size w wq→True:=fun _ _ _=>trivial;clear hno;by_cases hok:plOk p l=true;rotate_left
 ·replace hok:plOk p l=false:=by simpa using hok
  rw [hok];have hcs:¬inB p 1 7=true∨200<l.length:=by
   unfold plOk at hok;simp only [Bool.and_eq_false_iff,decide_eq_false_iff_not] at hok;rcases hok with h | h
   ·exact .inl (by rw [h];simp)
   ·exact .inr (by omega)
  obtain⟨bb,hbb⟩:∃bb,inB p 1 7=bb:=⟨_,rfl⟩;rw [hbb] at KN hcs;clear hok HSA hd hT0;go_enter Tryz.func19,Tryz.ntmps19;go_upto_region 1 with fail;rw [←hW0];clear hW0;go_wp2_with fail;refine KN.mono ?_;rintro e w1 ⟨u,rfl,o1,hb1⟩;obtain⟨ua,uc,rfl⟩:=ze_ o1;have hBA:=zb_ w1 (.cells #[.slice ua (ncN bb p).length uc,(),()] 30);have Z1:=(Z.below hb1).below hBA;have hB1:=za_ (za_ hB hb1) hBA;clear KN Z hb1 hBA hB o1;generalize (ncN bb p).length=nn at*;go_upto_region 2 with fail;obtain⟨W3,hW3⟩:∃W,W=w1.alloc (.cells #[.slice ua nn uc,(),()] 30):=⟨_,rfl⟩;rw [←hW3] at Z1 hB1 ⊢;clear hW3;obtain⟨W5,hW5,hC5,Z5⟩:=zi_ W3 Z1 () () ();have hBF:Hid (Below w.heap.size w W5):=hB1.trans (hC5.b1 hB1.size (by omega));clear hC5;obtain⟨zl,z0,z1,z2,f0,f1,f2⟩:=Z1.c3f;clear Z1;obtain⟨tl,t0,t1,t2⟩:=Z5.c3;clear Z5;unfold put3 at*
  cases bb with
  | false=>
   clear hcs;go_wp2;rw [←hW5];exact bodyPost_ret (v:= .tuple #[.agg z3,(),false]) (by simp [results,Tryz.results19,go_sem,t0,t1,t2]) rfl ⟨.inr ⟨rfl,rfl⟩,hBF.out⟩
  | true=>
   have h2:200<l.length:=by rcases hcs with h | h;exact absurd rfl h;exact h
   clear hcs;have h3:(200:Int)<(l.length:Int):=by omega
   go_wp2;rw [←hW5];exact bodyPost_ret (v:= .tuple #[.agg z3,(),false]) (by simp [results,Tryz.results19,go_sem,t0,t1,t2]) rfl ⟨.inr ⟨rfl,rfl⟩,hBF.out⟩
 rw [hok];obtain⟨hib,hl2⟩:inB p 1 7=true∧l.length≤200:=by
  unfold plOk at hok;simpa only [Bool.and_eq_true,decide_eq_true_eq] using hok
 have hp:1≤p∧p≤7:=by simpa [inB] using hib
 obtain⟨pn,rfl⟩:=Int.eq_ofNat_of_zero_le (show 0≤p from by omega);rw [hib,show ncN true (pn:Int)=yp_ pn pn from by simp [ncN]] at KN;rw [show ((pn:Int)).toNat=pn from by simp];have HPF:Hid (∀q:List Sp,PF pn (plGo (zG_ pn) q)):=fun q=>(newPF pn (by omega) (by omega)).go q;clear hok hib hp;go_enter Tryz.func19,Tryz.ntmps19;go_upto_region 1 with fail;rw [←hW0];clear hW0;go_wp2_with fail;refine KN.mono ?_;rintro e w1 ⟨u,rfl,o1,hb1⟩;obtain⟨ua,uc,rfl⟩:=ze_ o1;have hOC:OwnC w1 W0.heap.size w1.heap.size (.slice ua (yp_ pn pn).length uc) (.slice none 0 0) (.slice none 0 0) (yp_ pn pn) [] []:=
  OwnC.of (mid:=w1.heap.size) o1 (World.ownsRow_nil _ _ _ _) (World.ownsRow_nil _ _ _ _) ⟨hb1.size,fun i hi=>by
   rw [newNs_at];exact⟨⟨W0.heap.size,Nat.le_refl _,OwnN.nil _ _⟩,fun b hb=>by rcases hb with hb | hb | hb <;>cases hb⟩,fun i j h1 h2 _ b hb=>by rw [newNs_at] at hb;rcases hb with hb | hb | hb <;>cases hb⟩ (zr_.nil (Nat.le_refl _)) (fun b hb=>zh_ o1 b hb) (fun b hb=>by cases hb) (fun b hb=>by cases hb)
 obtain⟨nn,hnn⟩:∃nn,Hid ((yp_ (pn:Int) pn).length=nn):=⟨_,rfl⟩;rw [hnn.out] at hOC ⊢;have hBA:=zb_ w1 (.cells #[.slice ua nn uc,(),()] 30);have X:=Box.new w1 #[.slice ua nn uc,(),()] 30;have hTx:TyB (w1.alloc (.cells #[.slice ua nn uc,(),()] 30)) w1.heap.size 30:=⟨_,heap_alloc_new w1 _⟩;have Z1:=(Z.below hb1).below hBA;have hT1:=(hT0.below hb1).below hBA;have hO1:=hOC.below hBA;have hB1:=za_ (za_ hB hb1) hBA;have hz1:=hb1.size;have hz2:(w1.alloc (.cells #[.slice ua nn uc,(),()] 30)).heap.size=w1.heap.size+1:=by simp
 clear KN Z hb1 hBA hB o1 hOC hT0;go_upto_region 2 with fail;obtain⟨W3,hW3⟩:∃W,W=w1.alloc (.cells #[.slice ua nn uc,(),()] 30):=⟨_,rfl⟩;rw [←hW3] at X hTx Z1 hT1 hO1 hB1 hz2 ⊢;clear hW3;have h3:¬(200:Int)<(l.length:Int):=by omega
 obtain⟨bc,hbc⟩:∃bc,Hid (w1.heap.size=bc):=⟨_,rfl⟩;rw [hbc.out] at X hTx ⊢;have hbc1:w.heap.size<bc:=by have:=hbc.out;omega
 have hO2:OwnC W3 w.heap.size W3.heap.size (.slice ua nn uc) (.slice none 0 0) (.slice none 0 0) (yp_ pn pn) [] []:=(hO1.hiN (by omega)).loN (by omega);clear hbc hO1 hz2 hz1 hnn;go_wp2
 go_loopw [9,29] (fun dv i wr=>∃(k:Nat) (vn vm vl:Value) (N:List Nv) (M:List Mv),i= .int .i64 k∧k≤l.length∧Box wr bc [vn,vm,vl]∧Box wr w.heap.size z3∧TyB wr bc 30∧TyB wr w.heap.size 30∧OwnC wr w.heap.size wr.heap.size vn vm vl N M (plGo (zG_ pn) (l.take k)).l∧N.map Nv.n=(plGo (zG_ pn) (l.take k)).n∧M.map Mv.q=(plGo (zG_ pn) (l.take k)).m∧wr.ownsRow w.heap.size 4 1 dv k ((plDid (zG_ pn) (l.take k)).map Value.bool)∧Below w.heap.size w wr) (fun _ i _=>l.length-(intOf i).toNat)
 case atStart=>exact⟨0,_,_,_,yp_ pn pn,[],rfl,Nat.zero_le _,X,Z1,hTx,hT1,hO2,rfl,rfl,World.ownsRow_nil _ _ _ _,hB1⟩
 case round=>
  clear X Z1 hTx hT1 hO2 hB1 h3;obtain⟨k,vn,vm,vl,N,M,rfl,hk,X,Z,hTx,hT0,hO,hN,hM,oD,hB⟩:=hrel;obtain⟨da,dc,rfl⟩:=ze_ oD;obtain⟨ck,hck⟩:∃ck,plGo (zG_ pn) (l.take k)=ck:=⟨_,rfl⟩;rw [hck] at hO hN hM;have HN:Hid (N.map Nv.n=ck.n):=hN;have HM:Hid (M.map Mv.q=ck.m):=hM;have HG:Hid (PF pn ck):=by show PF _ _;rw [←hck];exact HPF.out _
  have HCK:Hid (plGo (zG_ pn) (l.take k)=ck):=hck;clear hN hM hck;obtain⟨⟨na,nc,rfl⟩,⟨ma,mc,rfl⟩,ya,yc,rfl⟩:=hO.shapes;have hCS:CS N M ck.l:=cs_of_pg (p:=pn) (by rw [HN.out,HM.out];exact HG.out.g);have hrz:=hB.size;have hxr:=X.1;by_cases hlt:k<l.length
  ·obtain⟨sb,so,sc',hse,hsb,hcell⟩:=HSA (by intro e;rw [e] at hlt;simp at hlt);simp only [Value.slice.injEq,true_and] at hse;obtain⟨rfl,rfl⟩:=hse;obtain⟨y,HY⟩:∃y,Hid (l[k]=y):=⟨l[k],(rfl:l[k]=l[k])⟩;have c0:=hcell k hlt;rw [HY.out,←hB.cell (p:=⟨sb,so+k*5,none⟩) hsb,←hB.cell (p:=⟨sb,so+k*5+1,none⟩) hsb,←hB.cell (p:=⟨sb,so+k*5+2,none⟩) hsb,←hB.cell (p:=⟨sb,so+k*5+3,none⟩) hsb,←hB.cell (p:=⟨sb,so+k*5+4,none⟩) hsb] at c0;obtain⟨c0,c1,c2,c3,c4⟩:=c0;have hyd:y.d.size≤1048576:=by rw [←HY.out];exact hd k hlt
   clear hcell HSA;have HDS:Hid (plDid (zG_ pn) (l.take (k+1))=plDid (zG_ pn) (l.take k)++ [stB ck.n ck.m y]):=by
    show _=_;rw [take_snoc l k hlt,plDid_snoc,HCK.out,HY.out]
   have HGS:Hid (plGo (zG_ pn) (l.take (k+1))=yt_ ck y):=by
    show _=_;rw [take_snoc l k hlt,plGo_snoc,HCK.out,HY.out]
   have HDL:Hid ((plDid (zG_ pn) (l.take k)).length=k):=by show _=_;rw [plDid_length,List.length_take];omega
   generalize plDid (zG_ pn) (l.take k)=DD at*;have hBA:=zb_ wr (.cells #[y.ki,y.no,y.k,y.ma,y.d] 51);have Y:=Box.new wr #[y.ki,y.no,y.k,y.ma,y.d] 51;have hbl:sb<wr.heap.size:=by omega
   go_upto_region 8 with fail;obtain⟨W4,hW4⟩:∃W,W=wr.alloc (.cells #[y.ki,y.no,y.k,y.ma,y.d] 51):=⟨_,rfl⟩;rw [←hW4] at hBA Y ⊢;have hzy:wr.heap.size<W4.heap.size:=by rw [hW4];simp
   clear hW4 c0 c1 c2 c3 c4;replace X:=X.below hBA;replace Z:=Z.below hBA;replace hTx:=hTx.below hBA;replace hT0:=hT0.below hBA;replace hO:=hO.below hBA;replace oD:=zd_ oD hBA;replace hB:=za_ hB hBA;clear hBA;have KO:=fun W (q:Below W4.heap.size W4 W)=>l12Own_any w.heap.size wr.heap.size _ _ _ N M ck.l W (hO.below q) hCS;obtain⟨ok,HOK⟩:∃ok,Hid (stB ck.n ck.m y=ok):=⟨stB ck.n ck.m y,(rfl:_=_)⟩;obtain⟨N2,hN2⟩:∃N2,Hid (stN ck.n ck.m y=N2):=⟨stN ck.n ck.m y,(rfl:_=_)⟩;obtain⟨M2,hM2⟩:∃M2,Hid (stM ck.n ck.m y=M2):=⟨stM ck.n ck.m y,(rfl:_=_)⟩;obtain⟨L2,hL2⟩:∃L2,Hid (stL ck.n ck.m ck.l y=L2):=⟨stL ck.n ck.m ck.l y,(rfl:_=_)⟩;have KS:∀(W:World) (lo hi:Nat) (xn xm xl:Value) (NA:List Nv) (MA:List Mv),OwnC W lo hi xn xm xl NA MA ck.l→hi≤W.heap.size→NA.map Nv.n=N.map Nv.n→MA.map Mv.q=M.map Mv.q→Calls Tryz.prog 46 #[.agg #[xn,xm,xl],.agg #[y.ki,y.no,y.k,y.ma,y.d]] W fun e w'=>StepA w' lo ok N2 M2 L2 e∧Chg (fun b=>lo≤b∧b<hi) W w':=fun W lo hi xn xm xl NA MA h1 h2 h3 h4=>by
    have hn:NA.map Nv.n=ck.n:=h3.trans HN.out;have hm:MA.map Mv.q=ck.m:=h4.trans HM.out;have K:=l12Step_any pn lo hi xn xm xl NA MA ck.l y.ki y.no y.k y.ma y.d W h1 h2 (by rw [hn,hm];exact HG.out) hyd;rw [hn,hm] at K;rw [show stB ck.n ck.m ⟨y.ki,y.no,y.k,y.ma,y.d⟩=ok from HOK.out,show stN ck.n ck.m ⟨y.ki,y.no,y.k,y.ma,y.d⟩=N2 from hN2.out,show stM ck.n ck.m ⟨y.ki,y.no,y.k,y.ma,y.d⟩=M2 from hM2.out,show stL ck.n ck.m ck.l ⟨y.ki,y.no,y.k,y.ma,y.d⟩=L2 from hL2.out] at K;exact K
   have hx4:=X.1
   go_cut [12,13] from 33 to 46 (fun t12 t13 wq=>∃(b12:Nat) (a1:Option Addr) (n1 d1:Nat) (a2:Option Addr) (n2 d2:Nat) (a3:Option Addr) (n3 d3:Nat),t12= .pointer (some ⟨b12,0,none⟩)∧t13= .bool ok∧Box wq b12 [.slice a1 n1 d1,.slice a2 n2 d2,.slice a3 n3 d3]∧W4.heap.size≤b12∧Below W4.heap.size W4 wq∧(ok=true→∃N' M',OwnC wq W4.heap.size wq.heap.size (.slice a1 n1 d1) (.slice a2 n2 d2) (.slice a3 n3 d3) N' M' L2∧N'.map Nv.n=N2∧M'.map Mv.q=M2))
   case first=>
    clear HOK hN2 hM2 hL2 HN HM HG HCK HDS HGS HDL hyd Z hTx hT0 hO oD hB hCS hd;have hva:Below W4.heap.size W4 W4.drew:=(Below.refl _ _).drew;replace X:=X.below hva;replace Y:=Y.below hva;refine wp_region_held_drew (S:=(fun w'=>Box w' bc [.slice na N.length nc,.slice ma M.length mc,.slice ya ck.l.length yc]∧Box w' wr.heap.size [y.ki,y.no,y.k,y.ma,y.d])) (by kernel_rfl) ⟨X,Y⟩ (fun zc_=> ?_);generalize W4.drew=va at*;refine tkH 0 (.agg #[.slice na N.length nc,.slice ma M.length mc,.slice ya ck.l.length yc]) rfl ?_ ?_
    ·intro wx hSw;have e:=hSw.1.2.1 0 _ rfl;have e3:=hSw.1.2.1 1 _ rfl;have e4:=hSw.1.2.1 2 _ rfl;have e2:=hSw.1.1;clear zc_ hSw;go_simp
    simp only [Act.put,sA_,sB_,sC_];refine tkH 2 (.agg #[y.ki,y.no,y.k,y.ma,y.d]) rfl ?_ ?_
    ·intro wx hSw;obtain⟨sl,s0,s1,s2,s3,s4⟩:=hSw.2.c5;clear zc_ hSw;go_simp
    simp only [Act.put,sA_,sB_,sC_];refine rd2 1 7 rfl rfl (fun K hK=> ?_) (fun K hK=> ?_)
    ·clear zc_;go_simp;refine (KO va hva).mono ?_;rintro e w5 ⟨⟨xn,xm,xl,NA,MA,rfl,hOA,hNA,hMA⟩,hb5⟩;obtain⟨⟨xa,xc,rfl⟩,⟨xb,xd,rfl⟩,xe,xf,rfl⟩:=hOA.shapes;replace X:=X.below hb5;replace Y:=Y.below hb5;have hva5:=za_ hva hb5;have hz5:=hb5.size;have hlo:=hva.size;clear hb5;refine hK.out _ w5 ⟨X,Y⟩ (fun zc_=> ?_);clear hK K
     try (simp only [Act.put,sA_,sB_,sC_])
     refine rd2 3 7 rfl rfl (fun K hK=> ?_) (fun K hK=> ?_)
     ·clear zc_;go_simp;refine (KS w5 _ _ _ _ _ NA MA hOA (Nat.le_refl _) hNA hMA).mono ?_;rintro e w6 ⟨hS,hC6⟩;have hS2:=stepA_any hS;clear hS;obtain⟨a1,n1,d1,a2,n2,d2,a3,n3,d3,rfl,hS⟩:=hS2;replace X:=hC6.box X (by intro q;have:=q.1;omega);replace Y:=hC6.box Y (by intro q;have:=q.1;omega);have hva6:=Chg.below2 hva5 hC6 (by omega);have hz6:=hC6.size;clear hOA;refine hK.out _ w6 ⟨X,Y⟩ (fun zc_=> ?_);clear hK K
      try (simp only [Act.put,sA_,sB_,sC_])
      refine tkH 4 (.tuple #[.agg #[.slice a1 n1 d1,.slice a2 n2 d2,.slice a3 n3 d3],ok]) rfl ?_ ?_
      ·intro wx hSw;clear zc_ hSw;go_simp
      simp only [Act.put,sA_,sB_,sC_];refine tkH 5 (.agg #[.slice a1 n1 d1,.slice a2 n2 d2,.slice a3 n3 d3]) rfl ?_ ?_
      ·intro wx hSw;clear zc_ hSw;go_simp
      simp only [Act.put,sA_,sB_,sC_];refine tkH 6 (.bool ok) rfl ?_ ?_
      ·intro wx hSw;clear zc_ hSw;go_simp
      simp only [Act.put,sA_,sB_,sC_];refine rd1 7 rfl (fun K hK=> ?_);clear zc_;have hBA:=zb_ w6 (.cells z3 30);have T:=Box.new w6 z3 30;have hTy:TyB (w6.alloc (.cells z3 30)) w6.heap.size 30:=⟨_,heap_alloc_new w6 _⟩;replace X:=X.below hBA;replace Y:=Y.below hBA;replace hS:ok=true→∃N' M',OwnC _ va.heap.size w6.heap.size (.slice a1 n1 d1) (.slice a2 n2 d2) (.slice a3 n3 d3) N' M' L2∧N'.map Nv.n=N2∧M'.map Mv.q=M2:=fun q=>by
       obtain⟨N',M',q1,q2,q3⟩:=hS q;exact⟨N',M',q1.below hBA,q2,q3⟩
      have hva7:=za_ hva6 hBA;clear hC6;go_simp;refine hK.out _ _ ⟨X,Y⟩ (fun zc_=> ?_);clear hK K
      try (simp only [Act.put,sA_,sB_,sC_])
      have hzb:w6.heap.size<(w6.alloc (.cells z3 30)).heap.size:=by simp
      generalize hw6:w6.alloc (.cells z3 30)=w7 at*;generalize hb6:w6.heap.size=b6 at*;clear hw6 hBA;refine rd1 8 rfl (fun K hK=> ?_);clear zc_;obtain⟨W7,hW7,hC7,T7⟩:=zi_ w7 T (.slice a1 n1 d1) (.slice a2 n2 d2) (.slice a3 n3 d3);have hz7:=hC7.size;obtain⟨zl,z0,z1,z2,f0,f1,f2⟩:=T.c3f;replace X:=hC7.box X (by omega);replace Y:=hC7.box Y (by omega);have hB7:=hva7.trans (hC7.b1 (B:=W4.heap.size) (by omega) (by omega));have HS7:Hid (ok=true→∃N' M',OwnC W7 W4.heap.size W7.heap.size (.slice a1 n1 d1) (.slice a2 n2 d2) (.slice a3 n3 d3) N' M' L2∧N'.map Nv.n=N2∧M'.map Mv.q=M2):=fun q=>by
       obtain⟨N',M',q1,q2,q3⟩:=hS q;exact⟨N',M',((q1.keep hTy hC7).hiN (by omega)).loN (by omega),q2,q3⟩
      clear hS hTy hC7 T;unfold put3 at hW7;go_simp;rw [←hW7];clear hW7 zl z0 z1 z2 f0 f1 f2;refine hK.out _ W7 ⟨X,Y⟩ (fun zc_=> ?_);clear hK K
      try (simp only [Act.put,sA_,sB_,sC_])
      refine tkH 9 (.bool ok) rfl ?_ ?_
      ·intro wx hSw;clear zc_ hSw;go_simp
      simp only [Act.put,sA_,sB_,sC_];clear zc_;refine wpAnyH_done (by kernel_rfl) ?_ _;go_wp2_with fail;go_meet
      case rel=>exact⟨b6,_,_,_,_,_,_,_,_,_,rfl,rfl,T7,by omega,hB7,HS7.out⟩
     ·clear zc_;have hBA:=zb_ w5 (.cells z3 30);have T:=Box.new w5 z3 30;have hTy:TyB (w5.alloc (.cells z3 30)) w5.heap.size 30:=⟨_,heap_alloc_new w5 _⟩;replace X:=X.below hBA;replace Y:=Y.below hBA;replace hOA:=hOA.below hBA;have hva7:=za_ hva5 hBA;have hhi:w5.heap.size≤(w5.alloc (.cells z3 30)).heap.size:=by simp
      go_simp;refine hK.out _ _ ⟨X,Y⟩ (fun zc_=> ?_);clear hK K
      try (simp only [Act.put,sA_,sB_,sC_])
      have hzb:w5.heap.size<(w5.alloc (.cells z3 30)).heap.size:=by simp
      generalize hw6:w5.alloc (.cells z3 30)=v6 at*;generalize hb6:w5.heap.size=b6 at*;clear hw6 hBA;refine rd1 3 rfl (fun K hK=> ?_);clear zc_;go_simp;refine (KS v6 _ _ _ _ _ NA MA hOA hhi hNA hMA).mono ?_;rintro e w6 ⟨hS,hC6⟩;have hS2:=stepA_any hS;clear hS;obtain⟨a1,n1,d1,a2,n2,d2,a3,n3,d3,rfl,hS⟩:=hS2;replace X:=hC6.box X (by intro q;have:=q.1;omega);replace Y:=hC6.box Y (by intro q;have:=q.1;omega);have hva6:=Chg.below2 hva7 hC6 (by omega);have hz6:=hC6.size;replace T:=hC6.box T (by intro q;have:=q.2;omega);replace hTy:=hTy.chg hC6 (by intro q;have:=q.2;omega);clear hC6 hOA;refine hK.out _ w6 ⟨X,Y⟩ (fun zc_=> ?_);clear hK K
      try (simp only [Act.put,sA_,sB_,sC_])
      refine tkH 4 (.tuple #[.agg #[.slice a1 n1 d1,.slice a2 n2 d2,.slice a3 n3 d3],ok]) rfl ?_ ?_
      ·intro wx hSw;clear zc_ hSw;go_simp
      simp only [Act.put,sA_,sB_,sC_];refine tkH 5 (.agg #[.slice a1 n1 d1,.slice a2 n2 d2,.slice a3 n3 d3]) rfl ?_ ?_
      ·intro wx hSw;clear zc_ hSw;go_simp
      simp only [Act.put,sA_,sB_,sC_];refine tkH 6 (.bool ok) rfl ?_ ?_
      ·intro wx hSw;clear zc_ hSw;go_simp
      simp only [Act.put,sA_,sB_,sC_];refine rd1 8 rfl (fun K hK=> ?_);clear zc_;obtain⟨W7,hW7,hC7,T7⟩:=zi_ w6 T (.slice a1 n1 d1) (.slice a2 n2 d2) (.slice a3 n3 d3);have hz7:=hC7.size;obtain⟨zl,z0,z1,z2,f0,f1,f2⟩:=T.c3f;replace X:=hC7.box X (by omega);replace Y:=hC7.box Y (by omega);have hB7:=hva6.trans (hC7.b1 (B:=W4.heap.size) (by omega) (by omega));have HS7:Hid (ok=true→∃N' M',OwnC W7 W4.heap.size W7.heap.size (.slice a1 n1 d1) (.slice a2 n2 d2) (.slice a3 n3 d3) N' M' L2∧N'.map Nv.n=N2∧M'.map Mv.q=M2):=fun q=>by
       obtain⟨N',M',q1,q2,q3⟩:=hS q;exact⟨N',M',((q1.keep hTy hC7).hiN (by omega)).loN (by omega),q2,q3⟩
      clear hS hTy hC7 T;unfold put3 at hW7;go_simp;rw [←hW7];clear hW7 zl z0 z1 z2 f0 f1 f2;refine hK.out _ W7 ⟨X,Y⟩ (fun zc_=> ?_);clear hK K
      try (simp only [Act.put,sA_,sB_,sC_])
      refine tkH 9 (.bool ok) rfl ?_ ?_
      ·intro wx hSw;clear zc_ hSw;go_simp
      simp only [Act.put,sA_,sB_,sC_];clear zc_;refine wpAnyH_done (by kernel_rfl) ?_ _;go_wp2_with fail;go_meet
      case rel=>exact⟨b6,_,_,_,_,_,_,_,_,_,rfl,rfl,T7,by omega,hB7,HS7.out⟩
    ·have hv4:=hva.size;clear zc_;have hBA:=zb_ va (.cells z3 30);have T:=Box.new va z3 30;have hTy:TyB (va.alloc (.cells z3 30)) va.heap.size 30:=⟨_,heap_alloc_new va _⟩;replace X:=X.below hBA;replace Y:=Y.below hBA;replace hva:=za_ hva hBA;go_simp;refine hK.out _ _ ⟨X,Y⟩ (fun zc_=> ?_);clear hK K
     try (simp only [Act.put,sA_,sB_,sC_])
     have hzb:va.heap.size<(va.alloc (.cells z3 30)).heap.size:=by simp
     generalize hw6:va.alloc (.cells z3 30)=v2 at*;generalize hb6:va.heap.size=b6 at*;clear hw6 hBA;refine rd1 1 rfl (fun K hK=> ?_);clear zc_;go_simp;refine (KO v2 hva).mono ?_;rintro e w5 ⟨⟨xn,xm,xl,NA,MA,rfl,hOA,hNA,hMA⟩,hb5⟩;obtain⟨⟨xa,xc,rfl⟩,⟨xb,xd,rfl⟩,xe,xf,rfl⟩:=hOA.shapes;replace X:=X.below hb5;replace Y:=Y.below hb5;have hva5:=za_ hva hb5;have hz5:=hb5.size;have hlo:=hva.size;replace T:=T.below hb5;replace hTy:=hTy.below hb5;clear hb5;refine hK.out _ w5 ⟨X,Y⟩ (fun zc_=> ?_);clear hK K
     try (simp only [Act.put,sA_,sB_,sC_])
     refine rd1 3 rfl (fun K hK=> ?_);clear zc_;go_simp;refine (KS w5 _ _ _ _ _ NA MA hOA (Nat.le_refl _) hNA hMA).mono ?_;rintro e w6 ⟨hS,hC6⟩;have hS2:=stepA_any hS;clear hS;obtain⟨a1,n1,d1,a2,n2,d2,a3,n3,d3,rfl,hS⟩:=hS2;replace X:=hC6.box X (by intro q;have:=q.1;omega);replace Y:=hC6.box Y (by intro q;have:=q.1;omega);have hva6:=Chg.below2 hva5 hC6 (by omega);have hz6:=hC6.size;replace T:=hC6.box T (by intro q;have:=q.1;omega);replace hTy:=hTy.chg hC6 (by intro q;have:=q.1;omega);clear hC6 hOA;refine hK.out _ w6 ⟨X,Y⟩ (fun zc_=> ?_);clear hK K
     try (simp only [Act.put,sA_,sB_,sC_])
     refine tkH 4 (.tuple #[.agg #[.slice a1 n1 d1,.slice a2 n2 d2,.slice a3 n3 d3],ok]) rfl ?_ ?_
     ·intro wx hSw;clear zc_ hSw;go_simp
     simp only [Act.put,sA_,sB_,sC_];refine tkH 5 (.agg #[.slice a1 n1 d1,.slice a2 n2 d2,.slice a3 n3 d3]) rfl ?_ ?_
     ·intro wx hSw;clear zc_ hSw;go_simp
     simp only [Act.put,sA_,sB_,sC_];refine tkH 6 (.bool ok) rfl ?_ ?_
     ·intro wx hSw;clear zc_ hSw;go_simp
     simp only [Act.put,sA_,sB_,sC_];refine rd1 8 rfl (fun K hK=> ?_);clear zc_;obtain⟨W7,hW7,hC7,T7⟩:=zi_ w6 T (.slice a1 n1 d1) (.slice a2 n2 d2) (.slice a3 n3 d3);have hz7:=hC7.size;obtain⟨zl,z0,z1,z2,f0,f1,f2⟩:=T.c3f;replace X:=hC7.box X (by omega);replace Y:=hC7.box Y (by omega);have hB7:=hva6.trans (hC7.b1 (B:=W4.heap.size) (by omega) (by omega));have HS7:Hid (ok=true→∃N' M',OwnC W7 W4.heap.size W7.heap.size (.slice a1 n1 d1) (.slice a2 n2 d2) (.slice a3 n3 d3) N' M' L2∧N'.map Nv.n=N2∧M'.map Mv.q=M2):=fun q=>by
      obtain⟨N',M',q1,q2,q3⟩:=hS q;exact⟨N',M',((q1.keep hTy hC7).hiN (by omega)).loN (by omega),q2,q3⟩
     clear hS hTy hC7 T;unfold put3 at hW7;go_simp;rw [←hW7];clear hW7 zl z0 z1 z2 f0 f1 f2;refine hK.out _ W7 ⟨X,Y⟩ (fun zc_=> ?_);clear hK K
     try (simp only [Act.put,sA_,sB_,sC_])
     refine tkH 9 (.bool ok) rfl ?_ ?_
     ·intro wx hSw;clear zc_ hSw;go_simp
     simp only [Act.put,sA_,sB_,sC_];clear zc_;refine wpAnyH_done (by kernel_rfl) ?_ _;go_wp2_with fail;go_meet
     case rel=>exact⟨b6,_,_,_,_,_,_,_,_,_,rfl,rfl,T7,by omega,hB7,HS7.out⟩
   case rest=>
    clear Y KO KS hCS;obtain⟨b12,a1,n1,d1,a2,n2,d2,a3,n3,d3,rfl,rfl,T,hb12,hbq,hSt⟩:=hcut;generalize wc=wq at*;replace X:=X.below hbq;replace Z:=Z.below hbq;replace hTx:=hTx.below hbq;replace hT0:=hT0.below hbq;replace hO:=hO.below hbq;replace oD:=zd_ oD hbq;replace hB:=za_ hB hbq;have hzq:=hbq.size;clear hbq
    cases ok with
    | true=>
     obtain⟨N',M',q1,q2,q3⟩:=hSt rfl;clear hSt hO;have Q2:Hid (N'.map Nv.n=N2):=q2;have Q3:Hid (M'.map Mv.q=M2):=q3;clear q2 q3;obtain⟨W7,hW7,hC7,X7⟩:=zi_ wq X (.slice a1 n1 d1) (.slice a2 n2 d2) (.slice a3 n3 d3);obtain⟨xl,x0,x1,x2,xf0,xf1,xf2⟩:=X.c3f;obtain⟨tl,t0,t1,t2⟩:=T.c3;have hz7:=hC7.size;have Z7:=hC7.box Z (by omega);have q7:=(((q1.keep hTx hC7).loN (show w.heap.size≤W4.heap.size from by omega)).hiN hz7);have hTx7:TyB W7 bc 30:=by
      obtain⟨cur,hc⟩:=hTx;rw [hW7];unfold put3;exact tyb_set (tyb_set (tyb_set ⟨cur,hc⟩ 0 _) 1 _) 2 _
     have hT7:=hT0.chg hC7 (by omega);have o7:=hC7.owns oD (fun b hb hh=>by have hh:b=bc:=hh;subst hh;exact hTx.ne oD (by decide) hb);have hB7:=hB.trans (hC7.b1 (B:=w.heap.size) (by omega) (by omega));unfold put3 at hW7;go_upto_region 11 with fail;rw [←hW7];clear hW7 hC7 X Z q1 hTx hT0 oD hB xl x0 x1 x2 xf0 xf1 xf2 tl t0 t1 t2 T;have X:=X7;have Z:=Z7;have hTx:=hTx7;have hT0:=hT7;have oD:=o7;have hB:=hB7;clear X7 Z7 hTx7 hT7 o7 hB7;go_wp2_with (at_builtin;refine zs_.go ?_);unfold zs_;obtain⟨i0,hi,hiz0,hizs,hizb⟩:=info_parts Tryz.info4;have hBA:=zb_ W7 (.cells #[true] 4);have hz8:W7.heap.size<(W7.alloc (.cells #[true] 4)).heap.size:=by simp
     have h1B:=one_newB W7 true;replace X:=X.below hBA;replace Z:=Z.below hBA;replace hTx:=hTx.below hBA;replace hT0:=hT0.below hBA;replace q7:=q7.below hBA;replace oD:=zd_ oD hBA;replace hB:=za_ hB hBA;clear hBA;refine wpList_append_own _ rfl _ _ 56 rfl w.heap.size 4 i0 (.bool false) 1 1 Tryz.underlying56 hi hiz0 hizs hizb rfl (by decide) (.slice da k dc) k (DD.map Value.bool) rfl oD ⟨W7.heap.size,0,none⟩ 1 1 [true] rfl rfl h1B (by intro u hu;simp at hu;subst hu;rfl) (by unfold maxLen;omega) (by omega) (by omega) ?_;intro dv w9 o9 hgr _;have hC9:=zz_ hgr;generalize W7.alloc (.cells #[true] 4)=W8 at*;have hz9:=hC9.size;have X9:=hC9.box X (fun q=>hTx.ne oD (by decide) q);have Z9:=hC9.box Z (fun q=>hT0.ne oD (by decide) q);have hTx9:=hTx.chg hC9 (fun q=>hTx.ne oD (by decide) q);have hT9:=hT0.chg hC9 (fun q=>hT0.ne oD (by decide) q);have hO9:=(q7.keepD oD hC9).hiN (show _≤w9.heap.size from by omega);have hB9:=hB.trans (hC9.below (B:=w.heap.size) (by omega) (fun b hb=>zg_ oD b hb));have HR:Hid (∃(k2:Nat) (vn vm vl:Value) (N:List Nv) (M:List Mv),.int .i64 ((k:Int)+1)=(.int .i64 k2:Value)∧k2≤l.length∧Box w9 bc [vn,vm,vl]∧Box w9 w.heap.size z3∧TyB w9 bc 30∧TyB w9 w.heap.size 30∧OwnC w9 w.heap.size w9.heap.size vn vm vl N M (plGo (zG_ pn) (l.take k2)).l∧N.map Nv.n=(plGo (zG_ pn) (l.take k2)).n∧M.map Mv.q=(plGo (zG_ pn) (l.take k2)).m∧w9.ownsRow w.heap.size 4 1 dv k2 ((plDid (zG_ pn) (l.take k2)).map Value.bool)∧Below w.heap.size w w9):=by
      refine⟨k+1,_,_,_,N',M',by go_num,by omega,X9,Z9,hTx9,hT9,?_,?_,?_,?_,hB9⟩
      ·rw [HGS.out];unfold yt_;rw [HOK.out,if_pos rfl];show OwnC _ _ _ _ _ _ _ _ (stL _ _ _ _);rw [hL2.out];exact hO9
      ·rw [HGS.out];unfold yt_;rw [HOK.out];exact (by rw [if_pos rfl];exact Q2.out.trans hN2.out.symm)
      ·rw [HGS.out];unfold yt_;rw [HOK.out];exact (by rw [if_pos rfl];exact Q3.out.trans hM2.out.symm)
      ·rw [HDS.out,HOK.out,List.map_append];exact o9
     clear X Z hTx hT0 oD hB o9 hC9 X9 Z9 hTx9 hT9 hO9 hB9 q7 h1B hgr hi hiz0 hizs hizb;go_wp2;go_roundw
     case rel=>exact HR.out
     case measure=>simp [intOf];omega
    | false=>
     clear hSt T;obtain⟨W7,hW7⟩:∃W,W=wq:=⟨_,rfl⟩;rw [←hW7] at X Z hTx hT0 hO oD hB hzq ⊢;clear hW7;have q7:=hO.hiN (show _≤W7.heap.size from by omega);clear hO;go_upto_region 11 with fail;go_wp2_with (at_builtin;refine zs_.go ?_);unfold zs_;obtain⟨i0,hi,hiz0,hizs,hizb⟩:=info_parts Tryz.info4;have hBA:=zb_ W7 (.cells #[false] 4);have hz8:W7.heap.size<(W7.alloc (.cells #[false] 4)).heap.size:=by simp
     have h1B:=one_newB W7 false;replace X:=X.below hBA;replace Z:=Z.below hBA;replace hTx:=hTx.below hBA;replace hT0:=hT0.below hBA;replace q7:=q7.below hBA;replace oD:=zd_ oD hBA;replace hB:=za_ hB hBA;clear hBA;refine wpList_append_own _ rfl _ _ 56 rfl w.heap.size 4 i0 (.bool false) 1 1 Tryz.underlying56 hi hiz0 hizs hizb rfl (by decide) (.slice da k dc) k (DD.map Value.bool) rfl oD ⟨W7.heap.size,0,none⟩ 1 1 [false] rfl rfl h1B (by intro u hu;simp at hu;subst hu;rfl) (by unfold maxLen;omega) (by omega) (by omega) ?_;intro dv w9 o9 hgr _;have hC9:=zz_ hgr;generalize W7.alloc (.cells #[false] 4)=W8 at*;have hz9:=hC9.size;have X9:=hC9.box X (fun q=>hTx.ne oD (by decide) q);have Z9:=hC9.box Z (fun q=>hT0.ne oD (by decide) q);have hTx9:=hTx.chg hC9 (fun q=>hTx.ne oD (by decide) q);have hT9:=hT0.chg hC9 (fun q=>hT0.ne oD (by decide) q);have hO9:=(q7.keepD oD hC9).hiN (show _≤w9.heap.size from by omega);have hB9:=hB.trans (hC9.below (B:=w.heap.size) (by omega) (fun b hb=>zg_ oD b hb));have HR:Hid (∃(k2:Nat) (vn vm vl:Value) (N:List Nv) (M:List Mv),.int .i64 ((k:Int)+1)=(.int .i64 k2:Value)∧k2≤l.length∧Box w9 bc [vn,vm,vl]∧Box w9 w.heap.size z3∧TyB w9 bc 30∧TyB w9 w.heap.size 30∧OwnC w9 w.heap.size w9.heap.size vn vm vl N M (plGo (zG_ pn) (l.take k2)).l∧N.map Nv.n=(plGo (zG_ pn) (l.take k2)).n∧M.map Mv.q=(plGo (zG_ pn) (l.take k2)).m∧w9.ownsRow w.heap.size 4 1 dv k2 ((plDid (zG_ pn) (l.take k2)).map Value.bool)∧Below w.heap.size w w9):=by
      refine⟨k+1,_,_,_,N,M,by go_num,by omega,X9,Z9,hTx9,hT9,?_,?_,?_,?_,hB9⟩
      ·rw [HGS.out];unfold yt_;rw [HOK.out,if_neg (by simp)];exact hO9
      ·rw [HGS.out];unfold yt_;rw [HOK.out];exact (by rw [if_neg (by simp)];exact HN.out)
      ·rw [HGS.out];unfold yt_;rw [HOK.out];exact (by rw [if_neg (by simp)];exact HM.out)
      ·rw [HDS.out,HOK.out,List.map_append];exact o9
     clear X Z hTx hT0 oD hB o9 hC9 X9 Z9 hTx9 hT9 hO9 hB9 q7 h1B hgr hi hiz0 hizs hizb;go_wp2;go_roundw
     case rel=>exact HR.out
     case measure=>simp [intOf];omega
  ·obtain rfl:k=l.length:=by omega
   rw [List.take_length] at HCK oD;clear HSA hd hlt hTx;have KO:=l12Own_any w.heap.size wr.heap.size _ _ _ N M ck.l wr hO hCS;obtain⟨xl,x0,x1,x2⟩:=X.c3;go_wp2_with fail;refine KO.mono ?_;rintro e w5 ⟨⟨xn,xm,xlv,NA,MA,rfl,hOA,hNA,hMA⟩,hb5⟩;obtain⟨⟨xa,xc,rfl⟩,⟨xb,xd,rfl⟩,xe,xf,rfl⟩:=hOA.shapes;have HNA:Hid (NA.map Nv.n=ck.n):=hNA.trans HN.out;have HMA:Hid (MA.map Mv.q=ck.m):=hMA.trans HM.out;clear hNA hMA KO hCS hO X xl x0 x1 x2;replace Z:=Z.below hb5;replace hT0:=hT0.below hb5;replace oD:=zd_ oD hb5;replace hB:=za_ hB hb5;have hz5:=hb5.size;clear hb5;obtain⟨W5,hW5,hC5,Z5⟩:=zi_ w5 Z (.slice xa NA.length xc) (.slice xb MA.length xd) (.slice xe ck.l.length xf);have hz6:=hC5.size;have hFF:Hid (OwnC W5 w.heap.size W5.heap.size (.slice xa NA.length xc) (.slice xb MA.length xd) (.slice xe ck.l.length xf) NA MA ck.l):=((hOA.keep hT0 hC5).hiN hz6).loN hrz;have o5:Hid (W5.ownsRow w.heap.size 4 1 (.slice da l.length dc) l.length ((plDid (zG_ pn) l).map Value.bool)):=hC5.owns oD (fun b hb hh=>by have hh:b=w.heap.size:=hh;subst hh;exact hT0.ne oD (by decide) hb);have hBF:Hid (Below w.heap.size w W5):=hB.trans (hC5.b1 (B:=w.heap.size) (by omega) (by omega));obtain⟨zl,z0,z1,z2,f0,f1,f2⟩:=Z.c3f;obtain⟨tl,t0,t1,t2⟩:=Z5.c3;clear hC5 Z hT0 oD hB Z5 hOA;unfold put3 at*;go_wp2;rw [←hW5];exact bodyPost_ret (v:= .tuple #[.agg #[.slice xa NA.length xc,.slice xb MA.length xd,.slice xe ck.l.length xf],.slice da l.length dc,true]) (by simp [results,Tryz.results19,go_sem,t0,t1,t2]) rfl ⟨.inl ⟨rfl,_,_,_,NA,MA,_,_,rfl,by rw [HCK.out];exact hFF.out,by rw [HCK.out];exact HNA.out,by rw [HCK.out];exact HMA.out,o5.out⟩,hBF.out⟩
set_option maxHeartbeats 200000

end Go.Proofs.YtapfhhmimkkhnaaGreat
namespace Go.Proofs.YtapfhhmimkkhnaaGreat
open Go.RowKit
set_option linter.unusedVariables false
set_option maxRecDepth 100000
def Sp.zero:Sp:=⟨0,0,0,0,⟨#[]⟩⟩
instance:Inhabited Sp:=⟨Sp.zero⟩
def flT:List Sp→List Value
 | []=> []
 | s::r=> .int .i64 s.ki:: .int .i64 s.no:: .int .i64 s.k:: .int .i64 s.ma:: .string s.d::flT r
theorem flT_length (l:List Sp):(flT l).length=l.length*5:=by
 induction l with
 | nil=>rfl
 | cons x r ih=>simp only [flT,List.length_cons,ih];omega
theorem flT_append (l m:List Sp):flT (l++m)=flT l++flT m:=by
 induction l with
 | nil=>rfl
 | cons x r ih=>simp only [List.cons_append,flT,ih]
theorem flT_get (l:List Sp) (i:Nat) (h:i<l.length):(flT l)[i*5]? =some (.int .i64 l[i].ki)∧(flT l)[i*5+1]? =some (.int .i64 l[i].no)∧(flT l)[i*5+2]? =some (.int .i64 l[i].k)∧(flT l)[i*5+3]? =some (.int .i64 l[i].ma)∧(flT l)[i*5+4]? =some (.string l[i].d):=by
 induction l generalizing i with
 | nil=>simp at h
 | cons x r ih=>
  cases i with
  | zero=>exact⟨rfl,rfl,rfl,rfl,rfl⟩
  | succ i=>
   have:=ih i (by simpa using h);rw [show (i+1)*5=i*5+1+1+1+1+1 from by omega,show i*5+1+1+1+1+1+1=(i*5+1)+1+1+1+1+1 from by omega,show i*5+1+1+1+1+1+2=(i*5+2)+1+1+1+1+1 from by omega,show i*5+1+1+1+1+1+3=(i*5+3)+1+1+1+1+1 from by omega,show i*5+1+1+1+1+1+4=(i*5+4)+1+1+1+1+1 from by omega];simp only [flT,List.getElem?_cons_succ,List.getElem_cons_succ];exact this
theorem flT_zeros (n:Nat):(madeCells (Value.agg #[.int .i64 0,.int .i64 0,.int .i64 0,.int .i64 0,.string ⟨#[]⟩]).cells (n*5)).toList=flT (List.replicate n Sp.zero):=by
 have hcs:(Value.agg #[.int .i64 0,.int .i64 0,.int .i64 0,.int .i64 0,.string ⟨#[]⟩]).cells=#[.int .i64 0,.int .i64 0,.int .i64 0,.int .i64 0,.string ⟨#[]⟩]:=rfl;rw [hcs];apply List.ext_getElem?;intro i;by_cases hi:i<n*5
 ·obtain⟨j,m,hm,rfl⟩:∃j m,m<5∧i=j*5+m:=⟨i / 5,i % 5,by omega,by omega⟩;have hj:j<(List.replicate n Sp.zero).length:=by simp;omega
  obtain⟨g0,g1,g2,g3,g4⟩:=flT_get _ j hj;obtain rfl | rfl | rfl | rfl | rfl:m=0∨m=1∨m=2∨m=3∨m=4:=by omega
  ·rw [Nat.add_zero] at hi ⊢;rw [g0];simp [madeCells,hi,Sp.zero]
  ·rw [g1];simp [madeCells,hi,Sp.zero]
  ·rw [g2];simp [madeCells,hi,Sp.zero]
  ·rw [g3];simp [madeCells,hi,Sp.zero]
  ·rw [g4];simp [madeCells,hi,Sp.zero]
 ·rw [List.getElem?_eq_none (by simp [madeCells];omega),List.getElem?_eq_none (by rw [flT_length];simp;omega)]
def TR (w:World) (v:Value) (l:List Sp):Prop:=
 ∃a cap,v= .slice a l.length cap∧(l≠ []→∃b off,a=some ⟨b,off,none⟩∧b<w.heap.size∧
  ∀i (h:i<l.length),w.cell? ⟨b,off+i*5,none⟩=some (.int .i64 l[i].ki)∧w.cell? ⟨b,off+i*5+1,none⟩=some (.int .i64 l[i].no)∧w.cell? ⟨b,off+i*5+2,none⟩=some (.int .i64 l[i].k)∧w.cell? ⟨b,off+i*5+3,none⟩=some (.int .i64 l[i].ma)∧w.cell? ⟨b,off+i*5+4,none⟩=some (.string l[i].d))
theorem TR.below {w w':World} {v:Value} {l:List Sp} (h:TR w v l) (hb:Below w.heap.size w w'):TR w' v l:=by
 obtain⟨a,cap,hv,hc⟩:=h;refine⟨a,cap,hv,fun hl=> ?_⟩;obtain⟨b,off,ha,hbl,hcell⟩:=hc hl;refine⟨b,off,ha,Nat.lt_of_lt_of_le hbl hb.size,fun i hi=> ?_⟩;obtain⟨c0,c1,c2,c3,c4⟩:=hcell i hi;exact⟨(hb.cell (p:=⟨b,off+i*5,none⟩) hbl).trans c0,(hb.cell (p:=⟨b,off+i*5+1,none⟩) hbl).trans c1,(hb.cell (p:=⟨b,off+i*5+2,none⟩) hbl).trans c2,(hb.cell (p:=⟨b,off+i*5+3,none⟩) hbl).trans c3,(hb.cell (p:=⟨b,off+i*5+4,none⟩) hbl).trans c4⟩
theorem TR.size {w:World} {v:Value} {l:List Sp} (h:TR w v l):∃a cap,v= .slice a l.length cap:=by obtain⟨a,c,h,_⟩:=h;exact⟨a,c,h⟩
theorem TR_of_owns {w:World} {base n:Nat} {e:TypeId} {v:Value} {l:List Sp} (h:w.ownsRow base e 5 v n (flT l)) (hn:n=l.length):TR w v l:=by
 subst hn;have h':=h;obtain⟨hl,h⟩:=h;rcases h with⟨rfl,h0⟩ | ⟨g,cap,cur,rfl,hbg,hh,hcap,hm,hsz,htk⟩
 ·exact⟨none,0,by rw [h0],fun hne=>absurd (List.length_eq_zero_iff.1 h0) hne⟩
 ·refine⟨_,cap,rfl,fun _=>⟨g,0,rfl,(Array.getElem?_eq_some_iff.1 hh).1,fun i hi=> ?_⟩⟩;obtain⟨g0,g1,g2,g3,g4⟩:=flT_get l i hi;rw [Nat.zero_add];exact⟨by rw [h'.cellAt (i*5) (by omega),g0],by rw [h'.cellAt (i*5+1) (by omega),g1],by rw [h'.cellAt (i*5+2) (by omega),g2],by rw [h'.cellAt (i*5+3) (by omega),g3],by rw [h'.cellAt (i*5+4) (by omega),g4]⟩
theorem Tryz.info51:(Tryz.prog.info? 51).map (fun i=>(i.zero,i.size,i.bytes))=some (some (.agg #[.int .i64 0,.int .i64 0,.int .i64 0,.int .i64 0,.string ⟨#[]⟩]),5,48):=by kernel_rfl
theorem flT_S (l:List Sp):flT l=flatS l:=by
 induction l with
 | nil=>rfl
 | cons x r ih=>simp only [flT,flatS,ih]
def BR (w:World) (v:Value) (D:List Bool):Prop:=
 ∃a cap,v= .slice a D.length cap∧(D≠ []→∃b,a=some ⟨b,0,none⟩∧b<w.heap.size∧∀i (h:i<D.length),w.cell? ⟨b,i,none⟩=some (.bool D[i]))
theorem BR.below {w w':World} {v:Value} {D:List Bool} (h:BR w v D) (hb:Below w.heap.size w w'):BR w' v D:=by
 obtain⟨a,cap,hv,hc⟩:=h;refine⟨a,cap,hv,fun hl=> ?_⟩;obtain⟨b,ha,hbl,hcell⟩:=hc hl;exact⟨b,ha,Nat.lt_of_lt_of_le hbl hb.size,fun i hi=>(hb.cell (p:=⟨b,i,none⟩) hbl).trans (hcell i hi)⟩
theorem BR_of_owns {w:World} {base:Nat} {e:TypeId} {v:Value} {D:List Bool} {n:Nat} (h:w.ownsRow base e 1 v n (D.map .bool)) (hn:n=D.length):BR w v D:=by
 subst hn;have h':=h;rcases h.2 with⟨rfl,h0⟩ | ⟨g,cap,cur,rfl,hbg,hh,_⟩
 ·exact⟨none,0,by rw [h0],fun hne=>absurd (List.length_eq_zero_iff.1 h0) hne⟩
 ·exact⟨_,cap,rfl,fun _=>⟨g,rfl,(Array.getElem?_eq_some_iff.1 hh).1,fun i hi=>by rw [h'.cellAt i (by omega)];simp [hi]⟩⟩
theorem run_neq_bS (w:World) (b:Bool):(binOp .neq 4 (.bool b) (.bool b)).run Tryz.prog w= .ok (.bool false) w:=by
 cases b <;>kernel_rfl
end Go.Proofs.YtapfhhmimkkhnaaGreat
namespace Go.Proofs.YtapfhhmimkkhnaaGreat
open Go.RowKit Go.Maps
set_option linter.unusedVariables false
set_option maxRecDepth 100000
def plR (ok:Bool) (p:Nat) (l:List Sp):PS:=if ok=true then plGo (zG_ p) l else⟨[],[],[]⟩
def plD (ok:Bool) (p:Nat) (l:List Sp):List Bool:=if ok=true then plDid (zG_ p) l else []
def PlB (w':World) (b0:Nat) (ok:Bool) (R:PS) (D:List Bool) (e:Ending):Prop:=
 ∃un um ul N M dv,e= .returned (.tuple #[.agg #[un,um,ul],dv,ok])∧OwnC w' b0 w'.heap.size un um ul N M R.l∧N.map Nv.n=R.n∧M.map Mv.q=R.m∧w'.ownsRow b0 4 1 dv D.length (D.map Value.bool)
theorem OwnC.none (w:World) (lo hi:Nat) (h:lo≤hi):OwnC w lo hi (.slice none 0 0) (.slice none 0 0) (.slice none 0 0) [] [] []:=
 OwnC.of (mid:=lo) (World.ownsRow_nil _ _ _ _) (World.ownsRow_nil _ _ _ _) (World.ownsRow_nil _ _ _ _) (zr_.nil (Nat.le_refl _)) (zr_.nil h) (fun b hb=>by cases hb) (fun b hb=>by cases hb) (fun b hb=>by cases hb)
theorem plA_B {w':World} {b0:Nat} {ok:Bool} {p:Nat} {l:List Sp} {e:Ending} (h:PlA w' b0 ok p l e) (hb:b0≤w'.heap.size):PlB w' b0 ok (plR ok p l) (plD ok p l) e:=by
 rcases h with⟨rfl,un,um,ul,N,M,du,dc,rfl,h1,h2,h3,h4⟩ | ⟨rfl,rfl⟩
 ·exact⟨un,um,ul,N,M,_,rfl,h1,h2,h3,by simp only [plD,if_true];rw [plDid_length];exact h4⟩
 ·exact⟨_,_,_,[],[],_,rfl,OwnC.none _ _ _ hb,rfl,rfl,World.ownsRow_nil _ _ _ _⟩
theorem sm_const {α:Type} (u:α→Nat) (c:Nat) (l:List α) (h:∀i (h:i<l.length),u l[i]≤c):sm u l≤c*l.length:=by
 induction l with
 | nil=>simp [sm]
 | cons x r ih=>
  have h0:=h 0 (by simp);have h1:=ih fun i hi=>by have:=h (i+1) (by simpa using hi);simpa using this
  simp only [sm,List.length_cons,List.getElem_cons_zero] at*;rw [Nat.mul_add];omega
theorem uC_pg {p:Nat} {N:List Nv} {M:List Mv} {L:List Ld} (h:PG p (N.map Nv.n) (M.map Mv.q) L):uC N M L≤20000:=by
 have hn:N.length≤7:=by have:=h.n;have:=h.p7;rw [List.length_map] at*;omega
 have hm:M.length≤60:=by have:=h.m6;rw [List.length_map] at this;exact this
 have hl:=h.l;have a:=sm_const uN 140 N fun i hi=>by
  obtain⟨g,_⟩:=h.g i (by rw [List.length_map];exact hi);rw [List.getElem_map] at g;have h1:=g.ll;have h2:=g.vl;unfold uN;omega
 have b:=sm_const uM 128 M fun i hi=>by
  have g:=h.m M[i].q (List.mem_map.2 ⟨M[i],List.getElem_mem hi,rfl⟩);obtain⟨_,_,_,_,_,_,a7⟩:=zv_ g;unfold uM;rcases kind_in a7 with h | h | h | h <;>rw [h] at a7
  ·rw [(kind_1 a7).2.1];simp
  ·rw [(kind_2 a7).2.2.1];simp
  ·have:=(kind_3 a7).2.1;have:=(kind_3 a7).1.1;omega
  ·rw [(kind_4 a7).2.2.1];simp
 have c:=sm_const uL 2 L fun i hi=>by unfold uL;omega
 unfold uC;omega
theorem plR_bnd (p:Int) (l:List Sp) {N:List Nv} {M:List Mv} (hn:N.map Nv.n=(plR (plOk p l) p.toNat l).n) (hm:M.map Mv.q=(plR (plOk p l) p.toNat l).m):CS N M (plR (plOk p l) p.toNat l).l∧uC N M (plR (plOk p l) p.toNat l).l≤20000:=by
 cases hok:plOk p l with
 | false=>
  rw [hok] at hn hm;simp only [plR,Bool.false_eq_true,if_false,List.map_eq_nil_iff] at hn hm ⊢;subst hn hm;exact⟨⟨by simp,by simp,by simp,fun i h=>by simp at h,fun i h=>by simp at h,fun i h=>by simp at h,fun i h=>by simp at h⟩,by simp [uC,sm]⟩
 | true=>
  rw [hok] at hn hm;simp only [plR,if_true] at hn hm ⊢;have hp:1≤p∧p≤7:=by
   unfold plOk at hok;simp only [Bool.and_eq_true] at hok;simpa [inB] using hok.1
  have g:PG p.toNat (plGo (zG_ p.toNat) l).n (plGo (zG_ p.toNat) l).m (plGo (zG_ p.toNat) l).l:=((newPF p.toNat (by omega) (by omega)).go l).g;rw [←hn,←hm] at g;exact⟨cs_of_pg g,uC_pg g⟩
theorem plD_len (p:Int) (l:List Sp):(plD (plOk p l) p.toNat l).length≤200:=by
 cases hok:plOk p l with
 | false=>simp [plD]
 | true=>
  simp only [plD,if_true,plDid_length];unfold plOk at hok;simp only [Bool.and_eq_true,decide_eq_true_eq] at hok;exact hok.2
theorem stood34:Tryz.prog.stoodInHeld 44=false:=by kernel_rfl
theorem eqFields_nil (d:Nat) (xs ys:Array Value) (P:Program) (w:World):(Op.eqFields d xs ys []).run P w= .ok true w:=rfl
theorem eqFields_cons {d:Nat} {xs ys:Array Value} {f:Field} {fs:List Field} {P:Program} {w:World} {x y:Value} {r:Bool} (hn:f.name≠ "_") (hx:(Go.part f.type xs f.offset).run P w= .ok x w) (hy:(Go.part f.type ys f.offset).run P w= .ok y w) (he:(Op.equalIn d f.type x y).run P w= .ok r w):
  (Op.eqFields d xs ys (f::fs)).run P w=if r=true then (Op.eqFields d xs ys fs).run P w else .ok false w:=by
 rw [Op.eqFields,if_pos hn];simp only [Sem.run_bind,hx,hy,he,Result.andThen_ok]
 cases r <;>simp
def fT:Field:= { name:= "Term",type:=3,offset:=0,embedded:=false,tag:= "",pkgPath:= "",byteOffset:=0 }
def fD:Field:= { name:= "Data",type:=9,offset:=1,embedded:=false,tag:= "",pkgPath:= "",byteOffset:=8 }
theorem fields34:Tryz.prog.fieldsOf 44=#[fT,fD]:=by unfold Program.fieldsOf;rw [Tryz.underlying44];rfl
theorem part9 (xs:Array Value) (i:Nat) (x:Value) (w:World) (h:xs[i]? =some x):(Go.part 9 xs i).run Tryz.prog w= .ok x w:=by simp [Go.part,isAgg,run_underlying Tryz.underlying9,h]
theorem part3 (xs:Array Value) (i:Nat) (x:Value) (w:World) (h:xs[i]? =some x):(Go.part 3 xs i).run Tryz.prog w= .ok x w:=by simp [Go.part,isAgg,run_underlying Tryz.underlying3,h]
def enEq (a b:En):Bool:=(a.t==b.t)&&(a.d.toList==b.d.toList)
theorem equalEnt (a b:En) (w:World):(Op.equalIn (9999+1) 44 (.agg #[a.t,a.d]) (.agg #[b.t,b.d])).run Tryz.prog w= .ok (enEq a b) w:=by
 have hu:Tryz.prog.underlying 44=some (.struct (Tryz.prog.fieldsOf 44)):=by rw [fields34];exact Tryz.underlying44
 rw [run_equalIn_struct w 9999 44 _ _ hu stood34,fields34];have h1:=eqFields_cons (d:=9999) (xs:=#[a.t,a.d]) (ys:=#[b.t,b.d]) (f:=fT) (fs:= [fD]) (x:= .int .i64 a.t) (y:= .int .i64 b.t) (by decide) (part3 _ 0 _ w rfl) (part3 _ 0 _ w rfl) (run_equalIn_int w 9998 3 .i64 .i64 _ _ Tryz.underlying3);have h2:=eqFields_cons (d:=9999) (xs:=#[a.t,a.d]) (ys:=#[b.t,b.d]) (f:=fD) (fs:= []) (x:= .string a.d) (y:= .string b.d) (by decide) (part9 _ 1 _ w rfl) (part9 _ 1 _ w rfl) (run_equalIn_string w 9998 9 _ _ Tryz.underlying9);show (Op.eqFields 9999 _ _ [fT,fD]).run Tryz.prog w=_;rw [h1,h2,eqFields_nil];unfold enEq
 cases (a.t==b.t) <;>cases (a.d.toList==b.d.toList) <;>rfl
theorem neqEntV (a b:En) (w:World):(binOp .neq 44 (.agg #[a.t,a.d]) (.agg #[b.t,b.d])).run Tryz.prog w= .ok (.bool (!enEq a b)) w:=by
 rw [run_neq_struct];show (Sem.run Tryz.prog (Op.equalIn (9999+1) 44 _ _) w).andThen _=_;rw [equalEnt]
 rfl
def eqAt (a b:List En) (j:Nat):Bool:=if h:j<a.length∧j<b.length then enEq a[j] b[j] else false
def okN (L0:List En) (x:Nd) (j:Nat):Bool:=decide ((j:Int)<x.co)&&eqAt L0 x.log j
def IsCm (L0:List En) (N:List Nd) (m:Nat):Prop:=(∀j,j<m→∀i (h:i<N.length),okN L0 N[i] j=true)∧∃i,∃h:i<N.length,okN L0 N[i] m=false
theorem IsCm.one {L0:List En} {N:List Nd} {m m':Nat} (h:IsCm L0 N m) (h':IsCm L0 N m'):m=m':=by
 obtain⟨i,hi,e⟩:=h.2;obtain⟨i',hi',e'⟩:=h'.2;by_cases h1:m<m'
 ·have:=h'.1 m h1 i hi;rw [e] at this;cases this
 ·by_cases h2:m'<m
  ·have:=h.1 m' h2 i' hi';rw [e'] at this;cases this
  ·omega
open Classical in
theorem below_drewN {B:Nat} {w w':World} (h:Below B w w') (q:Nat):Below B w (w'.drewN q):=by
 induction q with
 | zero=>exact h
 | succ q ih=>exact ih.drew
set_option maxHeartbeats 8000000
theorem sameEntries_same (u v:Value) (l:List En) (w:World) (hu:ER w u l) (hv:ER w v l) (hn:l.length≤1048576):
  Calls Tryz.prog 13 #[u,v] w fun e w'=>e= .returned (.bool true)∧Below w.heap.size w w':=by
 obtain⟨a,cap,rfl,hc⟩:=hu;obtain⟨a',cap',rfl,hc'⟩:=hv;go_enter Tryz.func13,Tryz.ntmps13;go_wp2
 go_loopw [13] (fun i wr=>∃k:Nat,k≤l.length∧i= .int .i64 k∧Below w.heap.size w wr) (fun i _=>l.length-(intOf i).toNat)
 case atStart=>exact⟨0,Nat.zero_le _,rfl,Below.refl _ _⟩
 case round=>
  obtain⟨k,hk,rfl,hb⟩:=hrel;by_cases hlt:k<l.length
  ·obtain⟨b,off,rfl,hbl,hcell⟩:=hc (by intro e;simp [e] at hlt);obtain⟨b',off',rfl,hbl',hcell'⟩:=hc' (by intro e;simp [e] at hlt);have hc0:=(hb.cell (p:=⟨b,off+k*2,none⟩) hbl).trans (hcell k hlt).1;have hc1:=(hb.cell (p:=⟨b,off+k*2+1,none⟩) hbl).trans (hcell k hlt).2;have hd0:=(hb.cell (p:=⟨b',off'+k*2,none⟩) hbl').trans (hcell' k hlt).1;have hd1:=(hb.cell (p:=⟨b',off'+k*2+1,none⟩) hbl').trans (hcell' k hlt).2;clear hcell hcell' hc hc';have EV:=fun W=>neqEntV l[k] l[k] W;rw [show enEq l[k] l[k]=true from by simp [enEq]] at EV;simp only [Bool.not_true] at EV;generalize l[k].t=t0 at*;generalize l[k].d=d0 at*;go_wp2_with fail
   go_quiet (fail)
   go_wp2;go_roundw
   case rel=>exact⟨k+1,by omega,by go_num,below_drewN hb _⟩
   case measure=>simp [intOf];omega
  ·clear hc hc';go_wp2;go_ret;exact⟨rfl,hb⟩
theorem sameInts_same (u v:Value) (l:List Int) (w:World) (hu:IL w u l) (hv:IL w v l) (hn:l.length≤1048576):
  Calls Tryz.prog 67 #[u,v] w fun e w'=>e= .returned (.bool true)∧Below w.heap.size w w':=by
 obtain⟨a,cap,rfl,hc⟩:=hu;obtain⟨a',cap',rfl,hc'⟩:=hv;go_enter Tryz.func67,Tryz.ntmps67;go_wp2
 go_loopw [13] (fun i wr=>∃k:Nat,k≤l.length∧i= .int .i64 k∧Below w.heap.size w wr) (fun i _=>l.length-(intOf i).toNat)
 case atStart=>exact⟨0,Nat.zero_le _,rfl,Below.refl _ _⟩
 case round=>
  obtain⟨k,hk,rfl,hb⟩:=hrel;by_cases hlt:k<l.length
  ·obtain⟨b,off,rfl,hbl,hcell⟩:=hc (by intro e;simp [e] at hlt);obtain⟨b',off',rfl,hbl',hcell'⟩:=hc' (by intro e;simp [e] at hlt);have hc0:wr.cell? ⟨b,off+k,none⟩=some (.int .i64 l[k]):=(hb.cell (p:=⟨b,off+k,none⟩) hbl).trans (hcell k hlt);have hd0:wr.cell? ⟨b',off'+k,none⟩=some (.int .i64 l[k]):=(hb.cell (p:=⟨b',off'+k,none⟩) hbl').trans (hcell' k hlt);clear hcell hcell' hc hc';generalize l[k]=c at*;go_wp2_with fail
   go_quiet (fail)
   go_wp2;go_roundw
   case rel=>exact⟨k+1,by omega,by go_num,below_drewN hb _⟩
   case measure=>simp [intOf];omega
  ·clear hc hc';go_wp2;go_ret;exact⟨rfl,hb⟩
theorem sameBools_same (u v:Value) (l:List Bool) (w:World) (hu:BR w u l) (hv:BR w v l) (hn:l.length≤1048576):
  Calls Tryz.prog 32 #[u,v] w fun e w'=>e= .returned (.bool true)∧Below w.heap.size w w':=by
 obtain⟨a,cap,rfl,hc⟩:=hu;obtain⟨a',cap',rfl,hc'⟩:=hv;go_enter Tryz.func32,Tryz.ntmps32;go_wp2
 go_loopw [13] (fun i wr=>∃k:Nat,k≤l.length∧i= .int .i64 k∧Below w.heap.size w wr) (fun i _=>l.length-(intOf i).toNat)
 case atStart=>exact⟨0,Nat.zero_le _,rfl,Below.refl _ _⟩
 case round=>
  obtain⟨k,hk,rfl,hb⟩:=hrel;by_cases hlt:k<l.length
  ·obtain⟨b,rfl,hbl,hcell⟩:=hc (by intro e;simp [e] at hlt);obtain⟨b',rfl,hbl',hcell'⟩:=hc' (by intro e;simp [e] at hlt);have hc0:wr.cell? ⟨b,k,none⟩=some (.bool l[k]):=(hb.cell (p:=⟨b,k,none⟩) hbl).trans (hcell k hlt);have hd0:wr.cell? ⟨b',k,none⟩=some (.bool l[k]):=(hb.cell (p:=⟨b',k,none⟩) hbl').trans (hcell' k hlt);have NB:=run_neq_bS;clear hcell hcell' hc hc';generalize l[k]=c at*;go_wp2_with fail
   go_quiet (fail)
   go_wp2;go_roundw
   case rel=>exact⟨k+1,by omega,by go_num,below_drewN hb _⟩
   case measure=>simp [intOf];omega
  ·clear hc hc';go_wp2;go_ret;exact⟨rfl,hb⟩
theorem sameNodes_same (id pe te vo co ro:Int) (ul uv um vl vv vm:Value) (log:List En) (vs mt:List Int) (w:World) (h1:ER w ul log) (h2:IL w uv vs) (h3:IL w um mt) (h4:ER w vl log) (h5:IL w vv vs) (h6:IL w vm mt) (n1:log.length≤1048576) (n2:vs.length≤1048576) (n3:mt.length≤1048576):
  Calls Tryz.prog 33 #[.agg #[id,pe,te,vo,ul,co,ro,uv,um],.agg #[id,pe,te,vo,vl,co,ro,vv,vm]] w fun e w'=>e= .returned (.bool true)∧Below w.heap.size w w':=by
 obtain⟨W0,hW0,hB,X,Y,_⟩:=al2 w [id,pe,te,vo,ul,co,ro,uv,um] 42 [id,pe,te,vo,vl,co,ro,vv,vm] 42;have K1:=fun W (q:Below w.heap.size w W)=>sameEntries_same ul vl log W (h1.below q) (h4.below q) n1;have K2:=fun W (q:Below w.heap.size w W)=>sameInts_same uv vv vs W (h2.below q) (h5.below q) n2;have K3:=fun W (q:Below w.heap.size w W)=>sameInts_same um vm mt W (h3.below q) (h6.below q) n3;obtain⟨la,lc,rfl,_⟩:=h1;obtain⟨va,vc,rfl,_⟩:=h2;obtain⟨ma,mc,rfl,_⟩:=h3;obtain⟨la',lc',rfl,_⟩:=h4;obtain⟨va',vc',rfl,_⟩:=h5;obtain⟨ma',mc',rfl,_⟩:=h6;obtain⟨xl,x0,x1,x2,x3,x4,x5,x6,x7,x8⟩:=X.e9;obtain⟨yl,y0,y1,y2,y3,y4,y5,y6,y7,y8⟩:=Y.e9;go_enter Tryz.func33,Tryz.ntmps33;go_wp2_with fail;rw [←hW0];clear hW0;refine (K1 _ hB).mono ?_;rintro e w1 ⟨rfl,hb⟩;replace hB:=za_ hB hb;replace X:=X.below hb;replace Y:=Y.below hb;clear hb;clear xl x0 x1 x2 x3 x4 x5 x6 x7 x8 yl y0 y1 y2 y3 y4 y5 y6 y7 y8;obtain⟨xl,x0,x1,x2,x3,x4,x5,x6,x7,x8⟩:=X.e9;obtain⟨yl,y0,y1,y2,y3,y4,y5,y6,y7,y8⟩:=Y.e9;go_wp2_with fail;refine (K2 _ hB).mono ?_;rintro e w2 ⟨rfl,hb⟩;replace hB:=za_ hB hb;replace X:=X.below hb;replace Y:=Y.below hb;clear hb;clear xl x0 x1 x2 x3 x4 x5 x6 x7 x8 yl y0 y1 y2 y3 y4 y5 y6 y7 y8;obtain⟨xl,x0,x1,x2,x3,x4,x5,x6,x7,x8⟩:=X.e9;obtain⟨yl,y0,y1,y2,y3,y4,y5,y6,y7,y8⟩:=Y.e9;go_wp2_with fail;refine (K3 _ hB).mono ?_;rintro e w3 ⟨rfl,hb⟩;replace hB:=za_ hB hb;replace X:=X.below hb;replace Y:=Y.below hb;clear hb;clear xl x0 x1 x2 x3 x4 x5 x6 x7 x8 yl y0 y1 y2 y3 y4 y5 y6 y7 y8;clear X Y K1 K2 K3;go_wp2;go_ret;exact⟨rfl,hB⟩
end Go.Proofs.YtapfhhmimkkhnaaGreat
