/-
  What is drawn of a cluster: its nodes, rows of one's own.
-/
import Derived.Test.YtapfhhmimkkhnaaSPL
import Derived.Test.YtapfhhmimkkhnaaTZToDF
import Derived.Test.YtapfhhmimkkhnaaD1ToD5
import Derived.Test.YtapfhhmimkkhnaaM3bToCO
import Derived.Test.YtapfhhmimkkhnaaCWToHM
import Derived.Deep.Cut
import Derived.Deep.CutBlock
namespace Go.Proofs.Ytapfhhmimkkhnaa
open Go.RowKit Go.Maps
set_option maxHeartbeats 16000000
set_option linter.unusedVariables false
set_option maxRecDepth 100000
structure Bd (x:Nd):Prop where
 l:x.log.length≤60
 v:x.vs.length≤7
 m:x.mt.length≤7
 s:∀i (h:i<x.log.length),x.log[i].d.size≤1048576
theorem Gd.bd {x:Nd} (h:Gd x):Bd x:=⟨by have:=h.ll;omega,h.vl.1,h.vl.2,h.bnd.s⟩
structure GN (w:World) (lo hi:Nat) (un:Value) (N:List Nv):Prop where
 n:w.ownsRow lo 26 9 un N.length (zH_ N)
 cn:∀i (h:i<N.length),PN w lo N[i]
 bd:∀i (h:i<N.length),Bd N[i].n
 l1:1≤N.length
 l7:N.length≤7
 bu:∀b,un.ownBlock=some b→b<hi
 bn:∀i (h:i<N.length) b,BN N[i] b→b<hi
theorem GN.chg {w w':World} {S:Nat→Prop} {lo hi:Nat} {un:Value} {N:List Nv} (h:GN w lo hi un N) (hc:Chg S w w') (hs:∀b,lo≤b→b<hi→¬S b):GN w' lo hi un N:=
 ⟨hc.owns h.n fun g hg=>hs g (ze_ h.n g hg) (h.bu g hg),fun i hi=>OwnN.chg (h.cn i hi) hc fun b hb=>hs b (PN.in (h.cn i hi) b hb).1 (h.bn i hi b hb),h.bd,h.l1,h.l7,h.bu,h.bn⟩
theorem GN.below {w w':World} {lo hi:Nat} {un:Value} {N:List Nv} (h:GN w lo hi un N) (hb:Below w.heap.size w w'):GN w' lo hi un N:=
 ⟨zd_ h.n hb,fun i hi=>OwnN.below (h.cn i hi) hb,h.bd,h.l1,h.l7,h.bu,h.bn⟩
theorem GN.row {w w':World} {lo hi base n:Nat} {un v:Value} {xs:List Value} {N:List Nv} (h:GN w lo hi un N) (o:w.ownsRow base 38 9 v n xs) (hc:Chg (fun b=>v.ownBlock=some b) w w'):GN w' lo hi un N:=
 ⟨hc.owns h.n fun g hg=>zi_ h.n o (by decide) g hg,fun i hi=>OwnN.chg (h.cn i hi) hc fun b hb=>PN.row_ne (h.cn i hi) o (by decide) (by decide) b hb,h.bd,h.l1,h.l7,h.bu,h.bn⟩
theorem PN.lo {w:World} {a b:Nat} {x:Nv} (h:PN w a x) (hb:b≤a):PN w b x:=OwnN.mono h hb
theorem GN.lo {w:World} {a b hi:Nat} {un:Value} {N:List Nv} (h:GN w a hi un N) (hb:b≤a):GN w b hi un N:=⟨zg_ h.n hb,fun i hi=>PN.lo (h.cn i hi) hb,h.bd,h.l1,h.l7,h.bu,h.bn⟩
theorem GN.hi {w:World} {a b c:Nat} {un:Value} {N:List Nv} (h:GN w a b un N) (hb:b≤c):GN w a c un N:=⟨h.n,h.cn,h.bd,h.l1,h.l7,fun g hg=>Nat.lt_of_lt_of_le (h.bu g hg) hb,fun i hi g hg=>Nat.lt_of_lt_of_le (h.bn i hi g hg) hb⟩
theorem OwnC.gn {w:World} {lo hi:Nat} {un um ul:Value} {N:List Nv} {M:List Mv} {L:List Ld} (h:OwnC w lo hi un um ul N M L) (hg:∀i (h:i<N.length),Gd N[i].n) (h1:1≤N.length) (h7:N.length≤7):GN w lo hi un N:=
 ⟨h.n,fun i hi=>by obtain⟨c,hc,hp,_⟩:=h.cn.at i hi;exact PN.lo hp hc,fun i hi=>(hg i hi).bd,h1,h7,h.bn,fun i hi b hb=>by obtain⟨c,hc,hp,q⟩:=h.cn.at i hi;exact (q b hb).2⟩
def setC (x:Nv) (c:Int):Nv:= { x with n:= { x.n with co:=c } }
def setR (x:Nv) (c:Int):Nv:= { x with n:= { x.n with ro:=c } }
theorem flatN_setC (x:Nv) (r:List Nv) (c:Int):(zH_ (x::r)).set 5 (.int .i64 c)=zH_ (setC x c::r):=rfl
theorem flatN_setR (x:Nv) (r:List Nv) (c:Int):(zH_ (x::r)).set 6 (.int .i64 c)=zH_ (setR x c::r):=rfl
theorem GN.put {w:World} {lo hi g cap:Nat} {x y:Nv} {r:List Nv} (h:GN w lo hi (.slice (some ⟨g,0,none⟩) (x::r).length cap) (x::r)) (j:Nat) (u:Value) (hf:(zH_ (x::r)).set j u=zH_ (y::r)) (hp:∀w c,PN w c x→PN w c y) (hb:Bd x.n→Bd y.n) (hbn:∀b,BN y b→BN x b):GN (w.setCell ⟨g,j,none⟩ u) lo hi (.slice (some ⟨g,0,none⟩) (y::r).length cap) (y::r):=by
 have hC:Chg (fun b=>b=g) w (w.setCell ⟨g,j,none⟩ u):=Chg.setCell (S:=fun b=>b=g) (Chg.refl _ _) rfl u;refine⟨?_,?_,?_,h.l1,h.l7,h.bu,?_⟩
 ·have o:=(h.n.stored j u).1;rw [hf] at o;exact o
 ·have q:∀i (hi:i<(x::r).length),PN (w.setCell ⟨g,j,none⟩ u) lo (x::r)[i]:=fun i hi=>OwnN.chg (h.cn i hi) hC fun b hb=>by
   rintro rfl;exact PN.row_ne (h.cn i hi) h.n (by decide) (by decide) b hb rfl
  intro i hi
  cases i with
  | zero=>exact hp _ _ (q 0 (by simp))
  | succ i=>exact q (i+1) (by simpa using hi)
 ·intro i hi
  cases i with
  | zero=>exact hb (h.bd 0 (by simp))
  | succ i=>exact h.bd (i+1) (by simpa using hi)
 ·intro i hi b q
  cases i with
  | zero=>exact h.bn 0 (by simp) b (hbn b q)
  | succ i=>exact h.bn (i+1) (by simpa using hi) b q
theorem sl_to130 (a:Option Addr) (n cap p:Nat) (w:World) (hp:p≤cap):(Instr.sliceAt 130 (.slice a n cap) none (some (.int .i64 p)) none).run Try.prog w= .ok (.slice a p cap) w:=by
 have h1:(p:Int)≤(cap:Int):=by omega
 have h2:(0:Int)≤(p:Int):=by omega
 have hA:(Instr.sliceAt 130 (.slice a n cap) none (some (.int .i64 p)) none).run Try.prog w=(Instr.slice 130 (.slice a n cap) none (some (.int .i64 p)) none).run Try.prog w:=by simp [Instr.sliceAt,run_underlying Try.underlying130]
 rw [hA];have e:a.map (fun x=>x.add (0*5))=a:=by cases a <;>simp [Addr.add]
 cases a <;>simp [Instr.slice,Instr.sliceBounds,Instr.sliceBound,asIntOf,run_underlying Try.underlying130,hp,h2,Try.sizeOf154,Addr.add]
theorem zP_.take {w:World} {size n:Nat} {a:Option Addr} {cap:Nat} {xs:List Value} (h:zP_ w size (.slice a n cap) n xs) {k:Nat} (hk:k≤n):zP_ w size (.slice a k cap) k (xs.take (k*size)):=by
 obtain⟨h1,a2,cap2,h2,h3⟩:=h;have hks:k*size≤n*size:=Nat.mul_le_mul_right _ hk;simp only [Value.slice.injEq,true_and] at h2;obtain⟨rfl,rfl⟩:=h2;refine⟨by rw [List.length_take];omega,a,cap,rfl,?_⟩;rcases h3 with⟨h3,h4⟩ | ⟨b,off,e,hb2,hc⟩
 ·exact .inl ⟨h3,by omega⟩
 ·refine .inr ⟨b,off,e,hb2,fun j u hj=>hc j u ?_⟩;rw [List.getElem?_take] at hj
  split at hj
  ·exact hj
  ·cases hj
theorem flT_S (l:List Sp):flT l=flatS l:=by
 induction l with
 | nil=>rfl
 | cons x r ih=>simp only [flT,flatS,ih]
theorem take_flatS (l:List Sp) (k:Nat):(flatS l).take (k*5)=flatS (l.take k):=by
 induction l generalizing k with
 | nil=>simp [flatS]
 | cons x r ih=>
  cases k with
  | zero=>simp [flatS]
  | succ k=>
   have:=ih k;simp only [flatS,List.take_succ_cons];rw [show (k+1)*5=k*5+1+1+1+1+1 from by omega];simp only [List.take_succ_cons,this]
theorem specPlayN (pe:Nat) (h1:1≤pe) (h7:pe≤7) (l:List Sp) (v:Value) (w:World) (hS:zP_ w 5 v l.length (flatS l)) (hd:∀s∈l,s.d.size≤1) (hl:l.length≤200):
  Calls Try.prog 119 #[pe,v] w fun e w'=>(∃un um ul N M,∃dv,∃k,e= .returned (.tuple #[.agg #[un,um,ul],dv,true])∧GN w' w.heap.size w'.heap.size un N∧w'.ownsRow w.heap.size 38 9 um (List.length M) (zu_ M)∧(List.length M)≤1000∧(∃a c,un= .slice a N.length c)∧(∃a c,um= .slice a (List.length M) c)∧(∃a c,ul= .slice a k c))∧Below w.heap.size w w':=by
 refine (specPlay_any pe l v w hS (fun i hi=>by have:=hd l[i] (List.getElem_mem hi);omega) (by omega)).mono ?_;rintro e w' ⟨hA,hB⟩;have hok:plOk (pe:Int) l=true:=by simp [plOk,inB];omega
 refine⟨?_,hB⟩;have PFh:=(newPF pe (by omega) (by omega)).go l;rcases hA with⟨_,un,um,ul,N,M,du,dc,rfl,hO,hN,hM,_⟩ | ⟨hf,_⟩
 ·rw [show ((pe:Int)).toNat=pe from by simp] at hO hN hM;have hlN:N.length=pe:=by have:=congrArg List.length hN;rw [List.length_map,PFh.g.n] at this;exact this
  have hlM:M.length≤1000:=by have:=congrArg List.length hM;rw [List.length_map] at this;have:=PFh.g.m6;omega
  have hg:∀i (h:i<N.length),Gd N[i].n:=fun i hi=>by
   have hi2:i<(plGo (yc_ pe) l).n.length:=by rw [←hN,List.length_map];exact hi
   have:=(PFh.g.g i hi2).1;have e:(plGo (yc_ pe) l).n[i]=N[i].n:=by simp only [←hN,List.getElem_map]
   rw [e] at this;exact this
  exact⟨un,um,ul,N,M,_,_,rfl,hO.gn hg (by omega) (by omega),hO.m,hlM,hO.shapes.1,hO.shapes.2.1,hO.shapes.2.2⟩
 ·rw [hok] at hf;cases hf
theorem cluster_any (b:Nat) (l:List UInt8) (K:Nat) (w:World) (h:Cur w b l K) (hl:l.length≤9223372036854775807) (hK:K≤1000):
  Calls Try.prog 63 #[.pointer (some ⟨b,0,none⟩)] w fun e w'=>(∃un um ul N,e= .returned (.agg #[un,um,ul])∧GN w' w.heap.size w'.heap.size un N∧(∃a c,un= .slice a N.length c)∧(∃a n c,um= .slice a n c)∧(∃a n c,ul= .slice a n c))∧Cur w' b l (K+30000)∧Chg (· =b) w w':=by
 have hbl:=h.lt;obtain⟨W0,hW0⟩:∃W,W=w.alloc (.cells z3 60):=⟨_,rfl⟩;have hB0:Below w.heap.size w W0:=by rw [hW0];exact zc_ _ _
 have R:Box W0 w.heap.size z3:=by rw [hW0];exact Box.new w z3 60
 have hz0:w.heap.size<W0.heap.size:=by rw [hW0];simp
 have hc:=h.chg hB0;have hch:Chg (· =b) w W0:=Chg.of_below hB0;clear h hB0;go_enter Try.func63,Try.ntmps63;go_upto_region 1 with fail;rw [←hW0];clear hW0;have V:=Box.new W0 #[(1:Int),(2:Int),(3:Int),(3:Int),(3:Int),(4:Int),(5:Int)] 3;have hBA:=zc_ W0 (.cells #[(1:Int),(2:Int),(3:Int),(3:Int),(3:Int),(4:Int),(5:Int)] 3);have hzA:W0.heap.size<(W0.alloc (.cells #[(1:Int),(2:Int),(3:Int),(3:Int),(3:Int),(4:Int),(5:Int)] 3)).heap.size:=by simp
 replace hc:=hc.chg hBA;replace R:=R.below hBA;replace hch:=hch.trans (Chg.of_below hBA);go_wp2_with fail;refine (among_any b l _ W0.heap.size [1,2,3,3,3,4,5] _ hc hl (by omega) V (by omega) (by simp) (by simp)).mono ?_;rintro e w1 ⟨⟨x,rfl,hx⟩,hc1,hch1⟩;have hx5:1≤x∧x≤5:=by simp at hx;omega
 obtain⟨pe,rfl⟩:=Int.eq_ofNat_of_zero_le (show 0≤x from by omega);replace R:=hch1.box R (by omega);replace hch:=hch.trans hch1;have hz1:=hch1.size;clear hc hch1 hBA V hx;go_wp2_with fail;refine (steps_any b l _ pe _ hc1 hl (by omega) (by omega) (by omega)).mono ?_;rintro e w2 ⟨⟨sv,L,rfl,oL,hlen,hd⟩,hc2,hch2⟩;replace R:=hch2.box R (by omega);replace hch:=hch.trans hch2;have hz2:=hch2.size;clear hc1 hch2;have hcap:∃a c,sv= .slice a L.length c∧L.length≤c:=by
  obtain⟨a,c,rfl⟩:=zf_ oL;exact⟨a,c,rfl,(owns_cap oL).1⟩
 obtain⟨sa,sc,rfl,hsc⟩:=hcap;have HR:zP_ w2 5 (.slice sa L.length sc) L.length (flatS L):=by rw [flT_S] at oL;exact zP_.own oL
 clear oL;go_upto_if 16 with fail
 go_cut [4] from 8 (fun s4 wc=>∃(c:Nat) (L2:List Sp),s4= .slice sa L2.length c∧wc=w2∧L2.length≤200∧zP_ w2 5 (.slice sa L2.length c) L2.length (flatS L2)∧∀s∈L2,s.d.size≤1)
 case first=>
  by_cases hbig:200<L.length
  ·have hb2:(200:Int)<(L.length:Int):=by omega
   have hsl:=fun W=>sl_to130 sa L.length sc 200 W (by omega);have hlt2:(L.take 200).length=200:=by rw [List.length_take];omega
   have HR2:zP_ w2 5 (.slice sa (L.take 200).length sc) (L.take 200).length (flatS (L.take 200)):=by
    rw [hlt2,←take_flatS];exact zP_.take HR (by omega)
   have hd2:∀s∈L.take 200,s.d.size≤1:=fun s hs=>hd s (List.mem_of_mem_take hs);have hFF:Hid (∃(c:Nat) (L2:List Sp),Value.slice sa 200 sc= .slice sa L2.length c∧L2.length≤200∧zP_ w2 5 (.slice sa L2.length c) L2.length (flatS L2)∧∀s∈L2,s.d.size≤1):=⟨sc,L.take 200,by rw [hlt2],by omega,HR2,hd2⟩;clear HR HR2 hd hd2 hlt2 R hc2 hch;go_wp2_with (first | (refine ye_ _ rfl 130 _ _ _ _ rfl _ (hsl _) ?_;simp only [Act.put,sA_,sB_,sC_]));go_meet
   case rel=>
    obtain⟨c,L2,q1,q2,q3,q4⟩:=hFF.out;exact⟨c,L2,q1,rfl,q2,q3,q4⟩
  ·have hb2:¬(200:Int)<(L.length:Int):=by omega
   have hFF:Hid (∃(c:Nat) (L2:List Sp),Value.slice sa L.length sc= .slice sa L2.length c∧L2.length≤200∧zP_ w2 5 (.slice sa L2.length c) L2.length (flatS L2)∧∀s∈L2,s.d.size≤1):=⟨sc,L,rfl,by omega,HR,hd⟩;clear HR hd R hc2 hch;go_wp2_with fail;go_meet
   case rel=>
    obtain⟨c,L2,q1,q2,q3,q4⟩:=hFF.out;exact⟨c,L2,q1,rfl,q2,q3,q4⟩
 case rest=>
  clear HR hd hlen hsc;obtain⟨sc2,L2,rfl,hwc,hl2,HR,hd⟩:=hcut;replace hwc:=hwc.symm;subst hwc;have KP:=specPlayN pe (by omega) (by omega) L2 _ w2 HR hd hl2;clear HR hd;go_wp2_with fail;refine KP.mono ?_;rintro e w3 ⟨⟨un,um,ul,N,M,dv,nk,rfl,hG,hM,hMl,⟨na,nc,hun⟩,⟨ma,mc,hum⟩,la,lc,hul⟩,hb3⟩;subst hun hum hul;replace R:=R.below hb3;replace hc2:=hc2.chg hb3;replace hch:=hch.trans (Chg.of_below hb3);have hz3:=hb3.size;clear KP hb3;replace hG:=hG.lo (show w.heap.size+1≤w2.heap.size from by omega);replace hM:=zg_ hM (show w.heap.size+1≤w2.heap.size from by omega);have hBX:=zc_ w3 (.cells #[.slice na N.length nc,.slice ma M.length mc,.slice la nk lc] 60);have X:=Box.new w3 #[.slice na N.length nc,.slice ma M.length mc,.slice la nk lc] 60;replace R:=R.below hBX;have hlt3:=hc2.lt;replace hc2:=hc2.chg hBX;replace hch:=hch.trans (Chg.of_below hBX);have hGlt:∀g,(Value.slice na N.length nc).ownBlock=some g→g<w3.heap.size:=zh_ hG.n;have hMlt:∀g,(Value.slice ma M.length mc).ownBlock=some g→g<w3.heap.size:=zh_ hM;replace hG:=hG.below hBX;replace hM:=zd_ hM hBX;go_upto_region 6 with fail;obtain⟨W4,hW4⟩:∃W,W=w3.alloc (.cells #[.slice na N.length nc,.slice ma M.length mc,.slice la nk lc] 60):=⟨_,rfl⟩;have hz4:w3.heap.size<W4.heap.size:=by rw [hW4];simp
  rw [←hW4] at X R hc2 hch hG hM ⊢;clear hW4 hBX;have X:Box W4 w3.heap.size [.slice na N.length nc,.slice ma M.length mc,.slice la nk lc]:=X;obtain⟨xb,hxb⟩:∃xb,Hid (w3.heap.size=xb):=⟨_,rfl⟩;rw [hxb.out] at X ⊢;have hxb1:w.heap.size<xb:=by have:=hxb.out;omega
  have hxb2:b<xb:=by omega
  have hxb3:∀g,(Value.slice na N.length nc).ownBlock=some g→g<xb:=fun g hg=>by have:=hGlt g hg;have:=hxb.out;omega
  rw [hxb.out] at hG;have hxb4:∀g,(Value.slice ma M.length mc).ownBlock=some g→g<xb:=fun g hg=>by have:=hMlt g hg;have:=hxb.out;omega
  clear hxb hGlt hMlt;go_wp2_with fail;refine (zl_ b l _ 60 _ hc2 hl (by omega) (by omega)).mono ?_;rintro e w5 ⟨⟨x4,rfl,hx4⟩,hc3,hch3⟩;replace R:=hch3.box R (by omega);replace X:=hch3.box X (by omega);replace hG:=hG.chg hch3 (fun k hk _ e=>by have e:k=b:=e;omega);replace hM:=hch3.owns hM (fun g hg e=>by have e:g=b:=e;have:=ze_ hM g hg;omega);replace hch:=hch.trans hch3;have hz5:=hch3.size;clear hc2 hch3;go_upto_block 0 with fail
  go_cut [] from 8 (fun wc=>∃(un um ul:Value) (N:List Nv),Box wc xb [un,um,ul]∧Box wc w.heap.size z3∧GN wc (w.heap.size+1) xb un N∧(∃a c,un= .slice a N.length c)∧(∃a n c,um= .slice a n c)∧(∃a n c,ul= .slice a n c)∧Cur wc b l (K+30000)∧Chg (· =b) w wc)
  case first=>
   have hxm:∀g,(Value.slice ma M.length mc).ownBlock=some g→g<xb:=hxb4;by_cases e0:x4=0
   ·subst e0;clear hx4;obtain⟨x,r,rfl⟩:∃x r,N=x::r:=by
     cases N with
     | nil=>have:=hG.l1;simp at this
     | cons x r=>exact⟨x,r,rfl⟩
    obtain⟨g,rfl⟩:∃g,na=some ⟨g,0,none⟩:=by
     rcases hG.n.2 with⟨_,h0⟩ | ⟨g,cap,cur,hv,_⟩
     ·have:=hG.l1;omega
     ·simp only [Value.slice.injEq] at hv;exact⟨g,hv.1⟩
    have hgx:=hxb3 g rfl;have hgw:=(owns_lt hG.n).1;have hD:Below w5.heap.size w5 w5.drew:=(Below.refl _ _).drew;replace X:=X.below hD;replace R:=R.below hD;replace hG:=hG.below hD;replace hM:=zd_ hM hD;replace hc3:=hc3.chg hD;replace hch:=hch.trans (Chg.of_below hD);have hzva:=hD.size;clear hD;go_wp2_with fail;refine wp_region_held_drew (S:=(fun w'=>Box w' xb [.slice (some ⟨g,0,none⟩) (x::r).length nc,.slice ma M.length mc,.slice la nk lc])) (by kernel_rfl) X (fun zb_=> ?_);generalize w5.drew=va at*;refine tkH 0 (.pointer (some ⟨xb,0,none⟩)) rfl ?_ ?_
    ·intro wx hSw;clear zb_ hSw;go_simp
    simp only [Act.put,sA_,sB_,sC_];refine tkH 1 (.slice (some ⟨g,0,none⟩) (x::r).length nc) rfl ?_ ?_
    ·intro wx hSw;have e:=hSw.2.1 0 _ rfl;have e2:=hSw.1;clear zb_ hSw;go_simp
    simp only [Act.put,sA_,sB_,sC_];refine tkH 2 (.pointer (some ⟨b,0,none⟩)) rfl ?_ ?_
    ·intro wx hSw;clear zb_ hSw;go_simp
    simp only [Act.put,sA_,sB_,sC_];refine rd1 3 rfl (fun K hK=> ?_);clear zb_;go_simp;refine (zl_ b l _ 4 _ hc3 hl (by omega) (by omega)).mono ?_;rintro e w6 ⟨⟨y,rfl,hy⟩,hc4,hch4⟩;replace R:=hch4.box R (by omega);replace X:=hch4.box X (by omega);replace hG:=hG.chg hch4 (fun k hk _ e=>by have e:k=b:=e;omega);replace hM:=hch4.owns hM (fun g hg e=>by have e:g=b:=e;have:=ze_ hM g hg;omega);replace hch:=hch.trans hch4;have hzw6:=hch4.size;replace hc3:=hc4;clear hc4 hch4;refine hK.out _ w6 X (fun zb_=> ?_);clear hK K
    try (simp only [Act.put,sA_,sB_,sC_])
    refine tkH 4 (.pointer (some ⟨g,0,none⟩)) rfl ?_ ?_
    ·intro wx hSw;have hn0:(0:Int)<((x::r).length:Int):=by simp only [List.length_cons];omega
     clear zb_ hSw;go_simp
    simp only [Act.put,sA_,sB_,sC_];refine tkH 5 (.pointer (some ⟨g,5,none⟩)) rfl ?_ ?_
    ·intro wx hSw;clear zb_ hSw;go_simp
    simp only [Act.put,sA_,sB_,sC_];refine rd1 6 rfl (fun K hK=> ?_);clear zb_;have hG7:=hG.put (y:=setC x y) 5 (.int .i64 y) (flatN_setC x r y) (fun _ _ h=>h) (fun h=>⟨h.l,h.v,h.m,h.s⟩) (fun _ h=>h);obtain⟨c0,hc0⟩:∃c,w6.cell? ⟨g,5,none⟩=some (.int .i64 c):=⟨_,by rw [hG.n.cellAt 5 (by simp;omega)];rfl⟩;have hf0:=hG.n.frozenAt 5;have hX7:=X.setOther ⟨g,5,none⟩ (.int .i64 y) (by show g≠xb;omega);have hR7:=R.setOther ⟨g,5,none⟩ (.int .i64 y) (by show g≠w.heap.size;omega);have hgl:=(owns_lt hG.n).2;have hc7:=zx_ hc3 (Nat.le_refl _) ⟨g,5,none⟩ (by show b<g;omega) (.int .i64 y);have hch7:=zy_ hch ⟨g,5,none⟩ (by show w.heap.size≤g;omega) (.int .i64 y);obtain⟨W7,hW7⟩:∃W,W=w6.setCell ⟨g,5,none⟩ (.int .i64 y):=⟨_,rfl⟩;rw [←hW7] at hG7 hX7 hR7 hc7 hch7;clear X R hG hM hc3 hch;go_simp;rw [←hW7];clear hW7 hc0 hf0;refine hK.out _ W7 hX7 (fun zb_=> ?_);clear hK K;clear zb_;refine wpAnyH_done (by kernel_rfl) ?_ _;go_wp2_with fail;go_meet
    case rel=>exact⟨_,_,_,setC x y::r,hX7,hR7,hG7,⟨_,_,rfl⟩,⟨_,_,_,rfl⟩,⟨_,_,_,rfl⟩,hc7.mono (by omega),hch7⟩
   by_cases e1:x4=1
   ·subst e1;clear hx4;obtain⟨x,r,rfl⟩:∃x r,N=x::r:=by
     cases N with
     | nil=>have:=hG.l1;simp at this
     | cons x r=>exact⟨x,r,rfl⟩
    obtain⟨g,rfl⟩:∃g,na=some ⟨g,0,none⟩:=by
     rcases hG.n.2 with⟨_,h0⟩ | ⟨g,cap,cur,hv,_⟩
     ·have:=hG.l1;omega
     ·simp only [Value.slice.injEq] at hv;exact⟨g,hv.1⟩
    have hgx:=hxb3 g rfl;have hgw:=(owns_lt hG.n).1;have hD:Below w5.heap.size w5 w5.drew:=(Below.refl _ _).drew;replace X:=X.below hD;replace R:=R.below hD;replace hG:=hG.below hD;replace hM:=zd_ hM hD;replace hc3:=hc3.chg hD;replace hch:=hch.trans (Chg.of_below hD);have hzva:=hD.size;clear hD;go_wp2_with fail;refine wp_region_held_drew (S:=(fun w'=>Box w' xb [.slice (some ⟨g,0,none⟩) (x::r).length nc,.slice ma M.length mc,.slice la nk lc])) (by kernel_rfl) X (fun zb_=> ?_);generalize w5.drew=va at*;refine tkH 0 (.pointer (some ⟨xb,0,none⟩)) rfl ?_ ?_
    ·intro wx hSw;clear zb_ hSw;go_simp
    simp only [Act.put,sA_,sB_,sC_];refine tkH 1 (.slice (some ⟨g,0,none⟩) (x::r).length nc) rfl ?_ ?_
    ·intro wx hSw;have e:=hSw.2.1 0 _ rfl;have e2:=hSw.1;clear zb_ hSw;go_simp
    simp only [Act.put,sA_,sB_,sC_];refine tkH 2 (.pointer (some ⟨b,0,none⟩)) rfl ?_ ?_
    ·intro wx hSw;clear zb_ hSw;go_simp
    simp only [Act.put,sA_,sB_,sC_];refine rd1 3 rfl (fun K hK=> ?_);clear zb_;go_simp;refine (zl_ b l _ 4 _ hc3 hl (by omega) (by omega)).mono ?_;rintro e w6 ⟨⟨y,rfl,hy⟩,hc4,hch4⟩;replace R:=hch4.box R (by omega);replace X:=hch4.box X (by omega);replace hG:=hG.chg hch4 (fun k hk _ e=>by have e:k=b:=e;omega);replace hM:=hch4.owns hM (fun g hg e=>by have e:g=b:=e;have:=ze_ hM g hg;omega);replace hch:=hch.trans hch4;have hzw6:=hch4.size;replace hc3:=hc4;clear hc4 hch4;refine hK.out _ w6 X (fun zb_=> ?_);clear hK K
    try (simp only [Act.put,sA_,sB_,sC_])
    refine tkH 4 (.pointer (some ⟨g,0,none⟩)) rfl ?_ ?_
    ·intro wx hSw;have hn0:(0:Int)<((x::r).length:Int):=by simp only [List.length_cons];omega
     clear zb_ hSw;go_simp
    simp only [Act.put,sA_,sB_,sC_];refine tkH 5 (.pointer (some ⟨g,6,none⟩)) rfl ?_ ?_
    ·intro wx hSw;clear zb_ hSw;go_simp
    simp only [Act.put,sA_,sB_,sC_];refine rd1 6 rfl (fun K hK=> ?_);clear zb_;have hG7:=hG.put (y:=setR x y) 6 (.int .i64 y) (flatN_setR x r y) (fun _ _ h=>h) (fun h=>⟨h.l,h.v,h.m,h.s⟩) (fun _ h=>h);obtain⟨c0,hc0⟩:∃c,w6.cell? ⟨g,6,none⟩=some (.int .i64 c):=⟨_,by rw [hG.n.cellAt 6 (by simp;omega)];rfl⟩;have hf0:=hG.n.frozenAt 6;have hX7:=X.setOther ⟨g,6,none⟩ (.int .i64 y) (by show g≠xb;omega);have hR7:=R.setOther ⟨g,6,none⟩ (.int .i64 y) (by show g≠w.heap.size;omega);have hgl:=(owns_lt hG.n).2;have hc7:=zx_ hc3 (Nat.le_refl _) ⟨g,6,none⟩ (by show b<g;omega) (.int .i64 y);have hch7:=zy_ hch ⟨g,6,none⟩ (by show w.heap.size≤g;omega) (.int .i64 y);obtain⟨W7,hW7⟩:∃W,W=w6.setCell ⟨g,6,none⟩ (.int .i64 y):=⟨_,rfl⟩;rw [←hW7] at hG7 hX7 hR7 hc7 hch7;clear X R hG hM hc3 hch;go_simp;rw [←hW7];clear hW7 hc0 hf0;refine hK.out _ W7 hX7 (fun zb_=> ?_);clear hK K;clear zb_;refine wpAnyH_done (by kernel_rfl) ?_ _;go_wp2_with fail;go_meet
    case rel=>exact⟨_,_,_,setR x y::r,hX7,hR7,hG7,⟨_,_,rfl⟩,⟨_,_,_,rfl⟩,⟨_,_,_,rfl⟩,hc7.mono (by omega),hch7⟩
   by_cases e2:x4=2
   ·subst e2;clear hx4;obtain⟨g,rfl⟩:∃g,na=some ⟨g,0,none⟩:=by
     rcases hG.n.2 with⟨_,h0⟩ | ⟨g,cap,cur,hv,_⟩
     ·have:=hG.l1;omega
     ·simp only [Value.slice.injEq] at hv;exact⟨g,hv.1⟩
    have hgx:=hxb3 g rfl;have hgw:=(owns_lt hG.n).1;have hD:Below w5.heap.size w5 w5.drew:=(Below.refl _ _).drew;replace X:=X.below hD;replace R:=R.below hD;replace hG:=hG.below hD;replace hM:=zd_ hM hD;replace hc3:=hc3.chg hD;replace hch:=hch.trans (Chg.of_below hD);have hzva:=hD.size;clear hD;go_wp2_with fail;refine wp_region_held_drew (S:=(fun _=>True)) (by kernel_rfl) trivial (fun zb_=> ?_);generalize w5.drew=va at*;refine tkH 0 (.pointer (some ⟨xb,1,none⟩)) rfl ?_ ?_
    ·intro wx hSw;clear zb_ hSw;go_simp
    simp only [Act.put,sA_,sB_,sC_];refine tkH 2 (.pointer (some ⟨b,0,none⟩)) rfl ?_ ?_
    ·intro wx hSw;clear zb_ hSw;go_simp
    simp only [Act.put,sA_,sB_,sC_];refine tkH 4 (.pointer (some ⟨b,0,none⟩)) rfl ?_ ?_
    ·intro wx hSw;clear zb_ hSw;go_simp
    simp only [Act.put,sA_,sB_,sC_];refine tkH 6 (.pointer (some ⟨b,0,none⟩)) rfl ?_ ?_
    ·intro wx hSw;clear zb_ hSw;go_simp
    simp only [Act.put,sA_,sB_,sC_];refine rd2 1 3 rfl rfl (fun K hK=> ?_) (fun K hK=> ?_)
    ·clear zb_;obtain⟨xl,x0,x1,x2⟩:=X.c3;go_simp;refine hK.out _ va trivial (fun zb_=> ?_);clear hK K xl x0 x1 x2
     try (simp only [Act.put,sA_,sB_,sC_])
     refine rd1 3 rfl (fun K hK=> ?_);clear zb_;go_simp;refine (zl_ b l _ 6 _ hc3 hl (by omega) (by omega)).mono ?_;rintro e w6 ⟨⟨y1,rfl,hy1⟩,hc4,hch4⟩;replace R:=hch4.box R (by omega);replace X:=hch4.box X (by omega);replace hG:=hG.chg hch4 (fun k hk _ e=>by have e:k=b:=e;omega);replace hM:=hch4.owns hM (fun g hg e=>by have e:g=b:=e;have:=ze_ hM g hg;omega);replace hch:=hch.trans hch4;have hzw6:=hch4.size;replace hc3:=hc4;clear hc4 hch4;refine hK.out _ w6 trivial (fun zb_=> ?_);clear hK K
     try (simp only [Act.put,sA_,sB_,sC_])
     refine rd1 5 rfl (fun K hK=> ?_);clear zb_;go_simp;refine (zl_ b l _ 3 _ hc3 hl (by omega) (by omega)).mono ?_;rintro e w7 ⟨⟨y2,rfl,hy2⟩,hc4,hch4⟩;replace R:=hch4.box R (by omega);replace X:=hch4.box X (by omega);replace hG:=hG.chg hch4 (fun k hk _ e=>by have e:k=b:=e;omega);replace hM:=hch4.owns hM (fun g hg e=>by have e:g=b:=e;have:=ze_ hM g hg;omega);replace hch:=hch.trans hch4;have hzw7:=hch4.size;replace hc3:=hc4;clear hc4 hch4;refine hK.out _ w7 trivial (fun zb_=> ?_);clear hK K
     try (simp only [Act.put,sA_,sB_,sC_])
     refine rd1 7 rfl (fun K hK=> ?_);clear zb_;go_simp;refine (zl_ b l _ 3 _ hc3 hl (by omega) (by omega)).mono ?_;rintro e w8 ⟨⟨y3,rfl,hy3⟩,hc4,hch4⟩;replace R:=hch4.box R (by omega);replace X:=hch4.box X (by omega);replace hG:=hG.chg hch4 (fun k hk _ e=>by have e:k=b:=e;omega);replace hM:=hch4.owns hM (fun g hg e=>by have e:g=b:=e;have:=ze_ hM g hg;omega);replace hch:=hch.trans hch4;have hzw8:=hch4.size;replace hc3:=hc4;clear hc4 hch4;refine hK.out _ w8 trivial (fun zb_=> ?_);clear hK K
     try (simp only [Act.put,sA_,sB_,sC_])
     refine tkH 8 (.agg #[y1,y3,y2,(1:Int),(0:Int),(0:Int),(),(0:Int),false]) rfl ?_ ?_
     ·intro wx hSw;clear zb_ hSw;go_simp
     simp only [Act.put,sA_,sB_,sC_];refine rd1 9 rfl (fun K hK=> ?_);clear zb_;have hBV:=zc_ w8 (.cells #[y1,y3,y2,(1:Int),(0:Int),(0:Int),(),(0:Int),false] 38);have V:=Box.new w8 #[y1,y3,y2,(1:Int),(0:Int),(0:Int),(),(0:Int),false] 38;replace R:=R.below hBV;replace X:=X.below hBV;replace hG:=hG.below hBV;replace hM:=zd_ hM hBV;have hlt8:=hc3.lt;replace hc3:=hc3.chg hBV;replace hch:=hch.trans (Chg.of_below hBV);go_simp;obtain⟨W9,hW9⟩:∃W,W=w8.alloc (.cells #[y1,y3,y2,(1:Int),(0:Int),(0:Int),(),(0:Int),false] 38):=⟨_,rfl⟩;have hz9:w8.heap.size<W9.heap.size:=by rw [hW9];simp
     rw [←hW9] at V R X hG hM hc3 hch ⊢;clear hW9 hBV;have V:Box W9 w8.heap.size [y1,y3,y2,(1:Int),(0:Int),(0:Int),(),(0:Int),false]:=V;have hI:zP_ W9 9 (.slice (some ⟨w8.heap.size,0,none⟩) 1 1) 1 [y1,y3,y2,(1:Int),(0:Int),(0:Int),(),(0:Int),false]:=⟨rfl,_,_,rfl,.inr ⟨w8.heap.size,0,rfl,V.1,fun j u hj=>by rw [Nat.zero_add];exact V.2.1 j u hj⟩⟩;clear V;refine hK.out _ W9 trivial (fun zb_=> ?_);clear hK K
     try (simp only [Act.put,sA_,sB_,sC_])
     refine rd1 10 rfl (fun K hK=> ?_);clear zb_;refine zL_ _ _ _ rfl rfl (w.heap.size+1) _ M.length (zu_ M) rfl hM _ 1 [y1,y3,y2,(1:Int),(0:Int),(0:Int),(),(0:Int),false] rfl hI (by simp [Value.oneCell']) (by omega) (by omega) ?_;intro v' wA oA hgr hvb;have hCA:=zm_ hgr;have hGA:=hG.row hM hCA;have hXM:∀g,(Value.slice ma M.length mc).ownBlock=some g→g≠xb∧g≠w.heap.size∧b<g:=fun g hg=>by have:=ze_ hM g hg;have:=hxm g hg;omega
     replace X:=hCA.box X (fun e=>(hXM _ e).1 rfl);replace R:=hCA.box R (fun e=>(hXM _ e).2.1 rfl);have hBA:Below (w.heap.size+1) W9 wA:=hCA.below (by omega) (fun q hq=>ze_ hM q hq);have hcA:=zI_ hc3 (show b<w.heap.size+1 from by omega) hBA;have hchA:=hch.nextC hCA (fun q hq=> .inr (by have:=ze_ hM q hq;omega));obtain⟨va2,vc2,rfl⟩:=zf_ oA;have hzA:=hCA.size;clear hgr hCA hvb hG hM hI hc3 hch hXM hBA oA;refine hK.out _ wA trivial (fun zb_=> ?_);clear hK K
     try (simp only [Act.put,sA_,sB_,sC_])
     refine tkH 11 (.pointer (some ⟨xb,1,none⟩)) rfl ?_ ?_
     ·intro wx hSw;clear zb_ hSw;go_simp
     simp only [Act.put,sA_,sB_,sC_];refine rd1 12 rfl (fun K hK=> ?_);clear zb_;obtain⟨xl,x0,x1,x2,xf0,xf1,xf2⟩:=X.c3f;have X7:=X.set 1 (.slice va2 (M.length+1) vc2) (by simp);have R7:=R.setOther ⟨xb,1,none⟩ (.slice va2 (M.length+1) vc2) (by show xb≠w.heap.size;omega);have hCx:Chg (fun k=>k=xb) wA (wA.setCell ⟨xb,1,none⟩ (.slice va2 (M.length+1) vc2)):=Chg.setCell (S:=fun k=>k=xb) (Chg.refl _ _) rfl _;have hG7:=hGA.chg hCx (fun k _ h1 e=>by have e:k=xb:=e;omega);have hc7:=zx_ hcA (Nat.le_refl _) ⟨xb,1,none⟩ (by show b<xb;omega) (.slice va2 (M.length+1) vc2);have hch7:=zy_ hchA ⟨xb,1,none⟩ (by show w.heap.size≤xb;omega) (.slice va2 (M.length+1) vc2);obtain⟨W7,hW7⟩:∃W,W=wA.setCell ⟨xb,1,none⟩ (.slice va2 (M.length+1) vc2):=⟨_,rfl⟩;have X7:Box (wA.setCell ⟨xb,1,none⟩ (.slice va2 (M.length+1) vc2)) xb [.slice (some ⟨g,0,none⟩) N.length nc,.slice va2 (M.length+1) vc2,.slice la nk lc]:=X7;rw [←hW7] at X7 R7 hG7 hc7 hch7;clear X R hGA hcA hchA hCx;go_simp;rw [←hW7];clear hW7 xl x0 x1 x2 xf0 xf1 xf2;refine hK.out _ W7 trivial (fun zb_=> ?_);clear hK K;clear zb_;refine wpAnyH_done (by kernel_rfl) ?_ _;go_wp2_with fail;go_meet
     case rel=>exact⟨_,_,_,N,X7,R7,hG7,⟨_,_,rfl⟩,⟨_,_,_,rfl⟩,⟨_,_,_,rfl⟩,hc7.mono (by omega),hch7⟩
    ·clear zb_;go_simp;refine (zl_ b l _ 6 _ hc3 hl (by omega) (by omega)).mono ?_;rintro e w6 ⟨⟨y1,rfl,hy1⟩,hc4,hch4⟩;replace R:=hch4.box R (by omega);replace X:=hch4.box X (by omega);replace hG:=hG.chg hch4 (fun k hk _ e=>by have e:k=b:=e;omega);replace hM:=hch4.owns hM (fun g hg e=>by have e:g=b:=e;have:=ze_ hM g hg;omega);replace hch:=hch.trans hch4;have hzw6:=hch4.size;replace hc3:=hc4;clear hc4 hch4;refine hK.out _ w6 trivial (fun zb_=> ?_);clear hK K
     try (simp only [Act.put,sA_,sB_,sC_])
     refine rd2 1 5 rfl rfl (fun K hK=> ?_) (fun K hK=> ?_)
     ·clear zb_;obtain⟨xl,x0,x1,x2⟩:=X.c3;go_simp;refine hK.out _ w6 trivial (fun zb_=> ?_);clear hK K xl x0 x1 x2
      try (simp only [Act.put,sA_,sB_,sC_])
      refine rd1 5 rfl (fun K hK=> ?_);clear zb_;go_simp;refine (zl_ b l _ 3 _ hc3 hl (by omega) (by omega)).mono ?_;rintro e w7 ⟨⟨y2,rfl,hy2⟩,hc4,hch4⟩;replace R:=hch4.box R (by omega);replace X:=hch4.box X (by omega);replace hG:=hG.chg hch4 (fun k hk _ e=>by have e:k=b:=e;omega);replace hM:=hch4.owns hM (fun g hg e=>by have e:g=b:=e;have:=ze_ hM g hg;omega);replace hch:=hch.trans hch4;have hzw7:=hch4.size;replace hc3:=hc4;clear hc4 hch4;refine hK.out _ w7 trivial (fun zb_=> ?_);clear hK K
      try (simp only [Act.put,sA_,sB_,sC_])
      refine rd1 7 rfl (fun K hK=> ?_);clear zb_;go_simp;refine (zl_ b l _ 3 _ hc3 hl (by omega) (by omega)).mono ?_;rintro e w8 ⟨⟨y3,rfl,hy3⟩,hc4,hch4⟩;replace R:=hch4.box R (by omega);replace X:=hch4.box X (by omega);replace hG:=hG.chg hch4 (fun k hk _ e=>by have e:k=b:=e;omega);replace hM:=hch4.owns hM (fun g hg e=>by have e:g=b:=e;have:=ze_ hM g hg;omega);replace hch:=hch.trans hch4;have hzw8:=hch4.size;replace hc3:=hc4;clear hc4 hch4;refine hK.out _ w8 trivial (fun zb_=> ?_);clear hK K
      try (simp only [Act.put,sA_,sB_,sC_])
      refine tkH 8 (.agg #[y1,y3,y2,(1:Int),(0:Int),(0:Int),(),(0:Int),false]) rfl ?_ ?_
      ·intro wx hSw;clear zb_ hSw;go_simp
      simp only [Act.put,sA_,sB_,sC_];refine rd1 9 rfl (fun K hK=> ?_);clear zb_;have hBV:=zc_ w8 (.cells #[y1,y3,y2,(1:Int),(0:Int),(0:Int),(),(0:Int),false] 38);have V:=Box.new w8 #[y1,y3,y2,(1:Int),(0:Int),(0:Int),(),(0:Int),false] 38;replace R:=R.below hBV;replace X:=X.below hBV;replace hG:=hG.below hBV;replace hM:=zd_ hM hBV;have hlt8:=hc3.lt;replace hc3:=hc3.chg hBV;replace hch:=hch.trans (Chg.of_below hBV);go_simp;obtain⟨W9,hW9⟩:∃W,W=w8.alloc (.cells #[y1,y3,y2,(1:Int),(0:Int),(0:Int),(),(0:Int),false] 38):=⟨_,rfl⟩;have hz9:w8.heap.size<W9.heap.size:=by rw [hW9];simp
      rw [←hW9] at V R X hG hM hc3 hch ⊢;clear hW9 hBV;have V:Box W9 w8.heap.size [y1,y3,y2,(1:Int),(0:Int),(0:Int),(),(0:Int),false]:=V;have hI:zP_ W9 9 (.slice (some ⟨w8.heap.size,0,none⟩) 1 1) 1 [y1,y3,y2,(1:Int),(0:Int),(0:Int),(),(0:Int),false]:=⟨rfl,_,_,rfl,.inr ⟨w8.heap.size,0,rfl,V.1,fun j u hj=>by rw [Nat.zero_add];exact V.2.1 j u hj⟩⟩;clear V;refine hK.out _ W9 trivial (fun zb_=> ?_);clear hK K
      try (simp only [Act.put,sA_,sB_,sC_])
      refine rd1 10 rfl (fun K hK=> ?_);clear zb_;refine zL_ _ _ _ rfl rfl (w.heap.size+1) _ M.length (zu_ M) rfl hM _ 1 [y1,y3,y2,(1:Int),(0:Int),(0:Int),(),(0:Int),false] rfl hI (by simp [Value.oneCell']) (by omega) (by omega) ?_;intro v' wA oA hgr hvb;have hCA:=zm_ hgr;have hGA:=hG.row hM hCA;have hXM:∀g,(Value.slice ma M.length mc).ownBlock=some g→g≠xb∧g≠w.heap.size∧b<g:=fun g hg=>by have:=ze_ hM g hg;have:=hxm g hg;omega
      replace X:=hCA.box X (fun e=>(hXM _ e).1 rfl);replace R:=hCA.box R (fun e=>(hXM _ e).2.1 rfl);have hBA:Below (w.heap.size+1) W9 wA:=hCA.below (by omega) (fun q hq=>ze_ hM q hq);have hcA:=zI_ hc3 (show b<w.heap.size+1 from by omega) hBA;have hchA:=hch.nextC hCA (fun q hq=> .inr (by have:=ze_ hM q hq;omega));obtain⟨va2,vc2,rfl⟩:=zf_ oA;have hzA:=hCA.size;clear hgr hCA hvb hG hM hI hc3 hch hXM hBA oA;refine hK.out _ wA trivial (fun zb_=> ?_);clear hK K
      try (simp only [Act.put,sA_,sB_,sC_])
      refine tkH 11 (.pointer (some ⟨xb,1,none⟩)) rfl ?_ ?_
      ·intro wx hSw;clear zb_ hSw;go_simp
      simp only [Act.put,sA_,sB_,sC_];refine rd1 12 rfl (fun K hK=> ?_);clear zb_;obtain⟨xl,x0,x1,x2,xf0,xf1,xf2⟩:=X.c3f;have X7:=X.set 1 (.slice va2 (M.length+1) vc2) (by simp);have R7:=R.setOther ⟨xb,1,none⟩ (.slice va2 (M.length+1) vc2) (by show xb≠w.heap.size;omega);have hCx:Chg (fun k=>k=xb) wA (wA.setCell ⟨xb,1,none⟩ (.slice va2 (M.length+1) vc2)):=Chg.setCell (S:=fun k=>k=xb) (Chg.refl _ _) rfl _;have hG7:=hGA.chg hCx (fun k _ h1 e=>by have e:k=xb:=e;omega);have hc7:=zx_ hcA (Nat.le_refl _) ⟨xb,1,none⟩ (by show b<xb;omega) (.slice va2 (M.length+1) vc2);have hch7:=zy_ hchA ⟨xb,1,none⟩ (by show w.heap.size≤xb;omega) (.slice va2 (M.length+1) vc2);obtain⟨W7,hW7⟩:∃W,W=wA.setCell ⟨xb,1,none⟩ (.slice va2 (M.length+1) vc2):=⟨_,rfl⟩;have X7:Box (wA.setCell ⟨xb,1,none⟩ (.slice va2 (M.length+1) vc2)) xb [.slice (some ⟨g,0,none⟩) N.length nc,.slice va2 (M.length+1) vc2,.slice la nk lc]:=X7;rw [←hW7] at X7 R7 hG7 hc7 hch7;clear X R hGA hcA hchA hCx;go_simp;rw [←hW7];clear hW7 xl x0 x1 x2 xf0 xf1 xf2;refine hK.out _ W7 trivial (fun zb_=> ?_);clear hK K;clear zb_;refine wpAnyH_done (by kernel_rfl) ?_ _;go_wp2_with fail;go_meet
      case rel=>exact⟨_,_,_,N,X7,R7,hG7,⟨_,_,rfl⟩,⟨_,_,_,rfl⟩,⟨_,_,_,rfl⟩,hc7.mono (by omega),hch7⟩
     ·clear zb_;go_simp;refine (zl_ b l _ 3 _ hc3 hl (by omega) (by omega)).mono ?_;rintro e w7 ⟨⟨y2,rfl,hy2⟩,hc4,hch4⟩;replace R:=hch4.box R (by omega);replace X:=hch4.box X (by omega);replace hG:=hG.chg hch4 (fun k hk _ e=>by have e:k=b:=e;omega);replace hM:=hch4.owns hM (fun g hg e=>by have e:g=b:=e;have:=ze_ hM g hg;omega);replace hch:=hch.trans hch4;have hzw7:=hch4.size;replace hc3:=hc4;clear hc4 hch4;refine hK.out _ w7 trivial (fun zb_=> ?_);clear hK K
      try (simp only [Act.put,sA_,sB_,sC_])
      refine rd2 1 7 rfl rfl (fun K hK=> ?_) (fun K hK=> ?_)
      ·clear zb_;obtain⟨xl,x0,x1,x2⟩:=X.c3;go_simp;refine hK.out _ w7 trivial (fun zb_=> ?_);clear hK K xl x0 x1 x2
       try (simp only [Act.put,sA_,sB_,sC_])
       refine rd1 7 rfl (fun K hK=> ?_);clear zb_;go_simp;refine (zl_ b l _ 3 _ hc3 hl (by omega) (by omega)).mono ?_;rintro e w8 ⟨⟨y3,rfl,hy3⟩,hc4,hch4⟩;replace R:=hch4.box R (by omega);replace X:=hch4.box X (by omega);replace hG:=hG.chg hch4 (fun k hk _ e=>by have e:k=b:=e;omega);replace hM:=hch4.owns hM (fun g hg e=>by have e:g=b:=e;have:=ze_ hM g hg;omega);replace hch:=hch.trans hch4;have hzw8:=hch4.size;replace hc3:=hc4;clear hc4 hch4;refine hK.out _ w8 trivial (fun zb_=> ?_);clear hK K
       try (simp only [Act.put,sA_,sB_,sC_])
       refine tkH 8 (.agg #[y1,y3,y2,(1:Int),(0:Int),(0:Int),(),(0:Int),false]) rfl ?_ ?_
       ·intro wx hSw;clear zb_ hSw;go_simp
       simp only [Act.put,sA_,sB_,sC_];refine rd1 9 rfl (fun K hK=> ?_);clear zb_;have hBV:=zc_ w8 (.cells #[y1,y3,y2,(1:Int),(0:Int),(0:Int),(),(0:Int),false] 38);have V:=Box.new w8 #[y1,y3,y2,(1:Int),(0:Int),(0:Int),(),(0:Int),false] 38;replace R:=R.below hBV;replace X:=X.below hBV;replace hG:=hG.below hBV;replace hM:=zd_ hM hBV;have hlt8:=hc3.lt;replace hc3:=hc3.chg hBV;replace hch:=hch.trans (Chg.of_below hBV);go_simp;obtain⟨W9,hW9⟩:∃W,W=w8.alloc (.cells #[y1,y3,y2,(1:Int),(0:Int),(0:Int),(),(0:Int),false] 38):=⟨_,rfl⟩;have hz9:w8.heap.size<W9.heap.size:=by rw [hW9];simp
       rw [←hW9] at V R X hG hM hc3 hch ⊢;clear hW9 hBV;have V:Box W9 w8.heap.size [y1,y3,y2,(1:Int),(0:Int),(0:Int),(),(0:Int),false]:=V;have hI:zP_ W9 9 (.slice (some ⟨w8.heap.size,0,none⟩) 1 1) 1 [y1,y3,y2,(1:Int),(0:Int),(0:Int),(),(0:Int),false]:=⟨rfl,_,_,rfl,.inr ⟨w8.heap.size,0,rfl,V.1,fun j u hj=>by rw [Nat.zero_add];exact V.2.1 j u hj⟩⟩;clear V;refine hK.out _ W9 trivial (fun zb_=> ?_);clear hK K
       try (simp only [Act.put,sA_,sB_,sC_])
       refine rd1 10 rfl (fun K hK=> ?_);clear zb_;refine zL_ _ _ _ rfl rfl (w.heap.size+1) _ M.length (zu_ M) rfl hM _ 1 [y1,y3,y2,(1:Int),(0:Int),(0:Int),(),(0:Int),false] rfl hI (by simp [Value.oneCell']) (by omega) (by omega) ?_;intro v' wA oA hgr hvb;have hCA:=zm_ hgr;have hGA:=hG.row hM hCA;have hXM:∀g,(Value.slice ma M.length mc).ownBlock=some g→g≠xb∧g≠w.heap.size∧b<g:=fun g hg=>by have:=ze_ hM g hg;have:=hxm g hg;omega
       replace X:=hCA.box X (fun e=>(hXM _ e).1 rfl);replace R:=hCA.box R (fun e=>(hXM _ e).2.1 rfl);have hBA:Below (w.heap.size+1) W9 wA:=hCA.below (by omega) (fun q hq=>ze_ hM q hq);have hcA:=zI_ hc3 (show b<w.heap.size+1 from by omega) hBA;have hchA:=hch.nextC hCA (fun q hq=> .inr (by have:=ze_ hM q hq;omega));obtain⟨va2,vc2,rfl⟩:=zf_ oA;have hzA:=hCA.size;clear hgr hCA hvb hG hM hI hc3 hch hXM hBA oA;refine hK.out _ wA trivial (fun zb_=> ?_);clear hK K
       try (simp only [Act.put,sA_,sB_,sC_])
       refine tkH 11 (.pointer (some ⟨xb,1,none⟩)) rfl ?_ ?_
       ·intro wx hSw;clear zb_ hSw;go_simp
       simp only [Act.put,sA_,sB_,sC_];refine rd1 12 rfl (fun K hK=> ?_);clear zb_;obtain⟨xl,x0,x1,x2,xf0,xf1,xf2⟩:=X.c3f;have X7:=X.set 1 (.slice va2 (M.length+1) vc2) (by simp);have R7:=R.setOther ⟨xb,1,none⟩ (.slice va2 (M.length+1) vc2) (by show xb≠w.heap.size;omega);have hCx:Chg (fun k=>k=xb) wA (wA.setCell ⟨xb,1,none⟩ (.slice va2 (M.length+1) vc2)):=Chg.setCell (S:=fun k=>k=xb) (Chg.refl _ _) rfl _;have hG7:=hGA.chg hCx (fun k _ h1 e=>by have e:k=xb:=e;omega);have hc7:=zx_ hcA (Nat.le_refl _) ⟨xb,1,none⟩ (by show b<xb;omega) (.slice va2 (M.length+1) vc2);have hch7:=zy_ hchA ⟨xb,1,none⟩ (by show w.heap.size≤xb;omega) (.slice va2 (M.length+1) vc2);obtain⟨W7,hW7⟩:∃W,W=wA.setCell ⟨xb,1,none⟩ (.slice va2 (M.length+1) vc2):=⟨_,rfl⟩;have X7:Box (wA.setCell ⟨xb,1,none⟩ (.slice va2 (M.length+1) vc2)) xb [.slice (some ⟨g,0,none⟩) N.length nc,.slice va2 (M.length+1) vc2,.slice la nk lc]:=X7;rw [←hW7] at X7 R7 hG7 hc7 hch7;clear X R hGA hcA hchA hCx;go_simp;rw [←hW7];clear hW7 xl x0 x1 x2 xf0 xf1 xf2;refine hK.out _ W7 trivial (fun zb_=> ?_);clear hK K;clear zb_;refine wpAnyH_done (by kernel_rfl) ?_ _;go_wp2_with fail;go_meet
       case rel=>exact⟨_,_,_,N,X7,R7,hG7,⟨_,_,rfl⟩,⟨_,_,_,rfl⟩,⟨_,_,_,rfl⟩,hc7.mono (by omega),hch7⟩
      ·clear zb_;go_simp;refine (zl_ b l _ 3 _ hc3 hl (by omega) (by omega)).mono ?_;rintro e w8 ⟨⟨y3,rfl,hy3⟩,hc4,hch4⟩;replace R:=hch4.box R (by omega);replace X:=hch4.box X (by omega);replace hG:=hG.chg hch4 (fun k hk _ e=>by have e:k=b:=e;omega);replace hM:=hch4.owns hM (fun g hg e=>by have e:g=b:=e;have:=ze_ hM g hg;omega);replace hch:=hch.trans hch4;have hzw8:=hch4.size;replace hc3:=hc4;clear hc4 hch4;refine hK.out _ w8 trivial (fun zb_=> ?_);clear hK K
       try (simp only [Act.put,sA_,sB_,sC_])
       refine tkH 8 (.agg #[y1,y3,y2,(1:Int),(0:Int),(0:Int),(),(0:Int),false]) rfl ?_ ?_
       ·intro wx hSw;clear zb_ hSw;go_simp
       simp only [Act.put,sA_,sB_,sC_];refine rd2 1 9 rfl rfl (fun K hK=> ?_) (fun K hK=> ?_)
       ·clear zb_;obtain⟨xl,x0,x1,x2⟩:=X.c3;go_simp;refine hK.out _ w8 trivial (fun zb_=> ?_);clear hK K xl x0 x1 x2
        try (simp only [Act.put,sA_,sB_,sC_])
        refine rd1 9 rfl (fun K hK=> ?_);clear zb_;have hBV:=zc_ w8 (.cells #[y1,y3,y2,(1:Int),(0:Int),(0:Int),(),(0:Int),false] 38);have V:=Box.new w8 #[y1,y3,y2,(1:Int),(0:Int),(0:Int),(),(0:Int),false] 38;replace R:=R.below hBV;replace X:=X.below hBV;replace hG:=hG.below hBV;replace hM:=zd_ hM hBV;have hlt8:=hc3.lt;replace hc3:=hc3.chg hBV;replace hch:=hch.trans (Chg.of_below hBV);go_simp;obtain⟨W9,hW9⟩:∃W,W=w8.alloc (.cells #[y1,y3,y2,(1:Int),(0:Int),(0:Int),(),(0:Int),false] 38):=⟨_,rfl⟩;have hz9:w8.heap.size<W9.heap.size:=by rw [hW9];simp
        rw [←hW9] at V R X hG hM hc3 hch ⊢;clear hW9 hBV;have V:Box W9 w8.heap.size [y1,y3,y2,(1:Int),(0:Int),(0:Int),(),(0:Int),false]:=V;have hI:zP_ W9 9 (.slice (some ⟨w8.heap.size,0,none⟩) 1 1) 1 [y1,y3,y2,(1:Int),(0:Int),(0:Int),(),(0:Int),false]:=⟨rfl,_,_,rfl,.inr ⟨w8.heap.size,0,rfl,V.1,fun j u hj=>by rw [Nat.zero_add];exact V.2.1 j u hj⟩⟩;clear V;refine hK.out _ W9 trivial (fun zb_=> ?_);clear hK K
        try (simp only [Act.put,sA_,sB_,sC_])
        refine rd1 10 rfl (fun K hK=> ?_);clear zb_;refine zL_ _ _ _ rfl rfl (w.heap.size+1) _ M.length (zu_ M) rfl hM _ 1 [y1,y3,y2,(1:Int),(0:Int),(0:Int),(),(0:Int),false] rfl hI (by simp [Value.oneCell']) (by omega) (by omega) ?_;intro v' wA oA hgr hvb;have hCA:=zm_ hgr;have hGA:=hG.row hM hCA;have hXM:∀g,(Value.slice ma M.length mc).ownBlock=some g→g≠xb∧g≠w.heap.size∧b<g:=fun g hg=>by have:=ze_ hM g hg;have:=hxm g hg;omega
        replace X:=hCA.box X (fun e=>(hXM _ e).1 rfl);replace R:=hCA.box R (fun e=>(hXM _ e).2.1 rfl);have hBA:Below (w.heap.size+1) W9 wA:=hCA.below (by omega) (fun q hq=>ze_ hM q hq);have hcA:=zI_ hc3 (show b<w.heap.size+1 from by omega) hBA;have hchA:=hch.nextC hCA (fun q hq=> .inr (by have:=ze_ hM q hq;omega));obtain⟨va2,vc2,rfl⟩:=zf_ oA;have hzA:=hCA.size;clear hgr hCA hvb hG hM hI hc3 hch hXM hBA oA;refine hK.out _ wA trivial (fun zb_=> ?_);clear hK K
        try (simp only [Act.put,sA_,sB_,sC_])
        refine tkH 11 (.pointer (some ⟨xb,1,none⟩)) rfl ?_ ?_
        ·intro wx hSw;clear zb_ hSw;go_simp
        simp only [Act.put,sA_,sB_,sC_];refine rd1 12 rfl (fun K hK=> ?_);clear zb_;obtain⟨xl,x0,x1,x2,xf0,xf1,xf2⟩:=X.c3f;have X7:=X.set 1 (.slice va2 (M.length+1) vc2) (by simp);have R7:=R.setOther ⟨xb,1,none⟩ (.slice va2 (M.length+1) vc2) (by show xb≠w.heap.size;omega);have hCx:Chg (fun k=>k=xb) wA (wA.setCell ⟨xb,1,none⟩ (.slice va2 (M.length+1) vc2)):=Chg.setCell (S:=fun k=>k=xb) (Chg.refl _ _) rfl _;have hG7:=hGA.chg hCx (fun k _ h1 e=>by have e:k=xb:=e;omega);have hc7:=zx_ hcA (Nat.le_refl _) ⟨xb,1,none⟩ (by show b<xb;omega) (.slice va2 (M.length+1) vc2);have hch7:=zy_ hchA ⟨xb,1,none⟩ (by show w.heap.size≤xb;omega) (.slice va2 (M.length+1) vc2);obtain⟨W7,hW7⟩:∃W,W=wA.setCell ⟨xb,1,none⟩ (.slice va2 (M.length+1) vc2):=⟨_,rfl⟩;have X7:Box (wA.setCell ⟨xb,1,none⟩ (.slice va2 (M.length+1) vc2)) xb [.slice (some ⟨g,0,none⟩) N.length nc,.slice va2 (M.length+1) vc2,.slice la nk lc]:=X7;rw [←hW7] at X7 R7 hG7 hc7 hch7;clear X R hGA hcA hchA hCx;go_simp;rw [←hW7];clear hW7 xl x0 x1 x2 xf0 xf1 xf2;refine hK.out _ W7 trivial (fun zb_=> ?_);clear hK K;clear zb_;refine wpAnyH_done (by kernel_rfl) ?_ _;go_wp2_with fail;go_meet
        case rel=>exact⟨_,_,_,N,X7,R7,hG7,⟨_,_,rfl⟩,⟨_,_,_,rfl⟩,⟨_,_,_,rfl⟩,hc7.mono (by omega),hch7⟩
       ·clear zb_;have hBV:=zc_ w8 (.cells #[y1,y3,y2,(1:Int),(0:Int),(0:Int),(),(0:Int),false] 38);have V:=Box.new w8 #[y1,y3,y2,(1:Int),(0:Int),(0:Int),(),(0:Int),false] 38;replace R:=R.below hBV;replace X:=X.below hBV;replace hG:=hG.below hBV;replace hM:=zd_ hM hBV;have hlt8:=hc3.lt;replace hc3:=hc3.chg hBV;replace hch:=hch.trans (Chg.of_below hBV);go_simp;obtain⟨W9,hW9⟩:∃W,W=w8.alloc (.cells #[y1,y3,y2,(1:Int),(0:Int),(0:Int),(),(0:Int),false] 38):=⟨_,rfl⟩;have hz9:w8.heap.size<W9.heap.size:=by rw [hW9];simp
        rw [←hW9] at V R X hG hM hc3 hch ⊢;clear hW9 hBV;have V:Box W9 w8.heap.size [y1,y3,y2,(1:Int),(0:Int),(0:Int),(),(0:Int),false]:=V;have hI:zP_ W9 9 (.slice (some ⟨w8.heap.size,0,none⟩) 1 1) 1 [y1,y3,y2,(1:Int),(0:Int),(0:Int),(),(0:Int),false]:=⟨rfl,_,_,rfl,.inr ⟨w8.heap.size,0,rfl,V.1,fun j u hj=>by rw [Nat.zero_add];exact V.2.1 j u hj⟩⟩;clear V;refine hK.out _ W9 trivial (fun zb_=> ?_);clear hK K
        try (simp only [Act.put,sA_,sB_,sC_])
        refine rd1 1 rfl (fun K hK=> ?_);clear zb_;obtain⟨xl,x0,x1,x2⟩:=X.c3;go_simp;refine hK.out _ W9 trivial (fun zb_=> ?_);clear hK K xl x0 x1 x2
        try (simp only [Act.put,sA_,sB_,sC_])
        refine rd1 10 rfl (fun K hK=> ?_);clear zb_;refine zL_ _ _ _ rfl rfl (w.heap.size+1) _ M.length (zu_ M) rfl hM _ 1 [y1,y3,y2,(1:Int),(0:Int),(0:Int),(),(0:Int),false] rfl hI (by simp [Value.oneCell']) (by omega) (by omega) ?_;intro v' wA oA hgr hvb;have hCA:=zm_ hgr;have hGA:=hG.row hM hCA;have hXM:∀g,(Value.slice ma M.length mc).ownBlock=some g→g≠xb∧g≠w.heap.size∧b<g:=fun g hg=>by have:=ze_ hM g hg;have:=hxm g hg;omega
        replace X:=hCA.box X (fun e=>(hXM _ e).1 rfl);replace R:=hCA.box R (fun e=>(hXM _ e).2.1 rfl);have hBA:Below (w.heap.size+1) W9 wA:=hCA.below (by omega) (fun q hq=>ze_ hM q hq);have hcA:=zI_ hc3 (show b<w.heap.size+1 from by omega) hBA;have hchA:=hch.nextC hCA (fun q hq=> .inr (by have:=ze_ hM q hq;omega));obtain⟨va2,vc2,rfl⟩:=zf_ oA;have hzA:=hCA.size;clear hgr hCA hvb hG hM hI hc3 hch hXM hBA oA;refine hK.out _ wA trivial (fun zb_=> ?_);clear hK K
        try (simp only [Act.put,sA_,sB_,sC_])
        refine tkH 11 (.pointer (some ⟨xb,1,none⟩)) rfl ?_ ?_
        ·intro wx hSw;clear zb_ hSw;go_simp
        simp only [Act.put,sA_,sB_,sC_];refine rd1 12 rfl (fun K hK=> ?_);clear zb_;obtain⟨xl,x0,x1,x2,xf0,xf1,xf2⟩:=X.c3f;have X7:=X.set 1 (.slice va2 (M.length+1) vc2) (by simp);have R7:=R.setOther ⟨xb,1,none⟩ (.slice va2 (M.length+1) vc2) (by show xb≠w.heap.size;omega);have hCx:Chg (fun k=>k=xb) wA (wA.setCell ⟨xb,1,none⟩ (.slice va2 (M.length+1) vc2)):=Chg.setCell (S:=fun k=>k=xb) (Chg.refl _ _) rfl _;have hG7:=hGA.chg hCx (fun k _ h1 e=>by have e:k=xb:=e;omega);have hc7:=zx_ hcA (Nat.le_refl _) ⟨xb,1,none⟩ (by show b<xb;omega) (.slice va2 (M.length+1) vc2);have hch7:=zy_ hchA ⟨xb,1,none⟩ (by show w.heap.size≤xb;omega) (.slice va2 (M.length+1) vc2);obtain⟨W7,hW7⟩:∃W,W=wA.setCell ⟨xb,1,none⟩ (.slice va2 (M.length+1) vc2):=⟨_,rfl⟩;have X7:Box (wA.setCell ⟨xb,1,none⟩ (.slice va2 (M.length+1) vc2)) xb [.slice (some ⟨g,0,none⟩) N.length nc,.slice va2 (M.length+1) vc2,.slice la nk lc]:=X7;rw [←hW7] at X7 R7 hG7 hc7 hch7;clear X R hGA hcA hchA hCx;go_simp;rw [←hW7];clear hW7 xl x0 x1 x2 xf0 xf1 xf2;refine hK.out _ W7 trivial (fun zb_=> ?_);clear hK K;clear zb_;refine wpAnyH_done (by kernel_rfl) ?_ _;go_wp2_with fail;go_meet
        case rel=>exact⟨_,_,_,N,X7,R7,hG7,⟨_,_,rfl⟩,⟨_,_,_,rfl⟩,⟨_,_,_,rfl⟩,hc7.mono (by omega),hch7⟩
   have f0:¬(x4:Int)=0:=by omega
   have f1:¬(x4:Int)=1:=by omega
   have f2:¬(x4:Int)=2:=by omega
   clear hx4 hxm;go_wp2_with fail;go_meet
   case rel=>exact⟨_,_,_,N,X,R,hG,⟨_,_,rfl⟩,⟨_,_,_,rfl⟩,⟨_,_,_,rfl⟩,hc3.mono (by omega),hch⟩
  case rest=>
   clear hG hM hch X R hc3 hxb3 hxb4 hz1 hz2 hz3 hz4 hz5;obtain⟨un,um,ul,N2,X,R,hG,⟨na2,nc2,hun⟩,⟨ma2,mn2,mc2,hum⟩,⟨la2,ln2,lc2,hul⟩,hc,hch⟩:=hcut;subst hun hum hul;generalize wc=w6 at*;have hz6:=hch.size;obtain⟨xl,x0,x1,x2⟩:=X.c3;obtain⟨rl,r0,r1,r2,rf0,rf1,rf2⟩:=R.c3f;obtain⟨W7,hW7,hC7,R7⟩:=zq_ w6 R (.slice na2 N2.length nc2) (.slice ma2 mn2 mc2) (.slice la2 ln2 lc2);have hG7:=(hG.chg hC7 (fun k h1 _ e=>by have e:k=w.heap.size:=e;omega)).lo (show w.heap.size≤w.heap.size+1 from by omega);replace hG7:=hG7.hi (show xb≤W7.heap.size from by have:=hC7.size;have:=X.1;omega);have hch7:=hch.nextC hC7 (fun q hq=> .inr (by have hq:q=w.heap.size:=hq;omega));have hcL:Cur W7 b l (K+30000):=zI_ hc hbl (hC7.b1 (B:=w.heap.size) (by omega) (by omega));have HF:Hid ((∃u1 u2 u3 N,Ending.returned (.agg #[.slice na2 N2.length nc2,.slice ma2 mn2 mc2,.slice la2 ln2 lc2])= .returned (.agg #[u1,u2,u3])∧GN W7 w.heap.size W7.heap.size u1 N∧(∃a c,u1= .slice a N.length c)∧(∃a n c,u2= .slice a n c)∧(∃a n c,u3= .slice a n c))∧Cur W7 b l (K+30000)∧Chg (· =b) w W7):=⟨⟨_,_,_,N2,rfl,hG7,⟨_,_,rfl⟩,⟨_,_,_,rfl⟩,⟨_,_,_,rfl⟩⟩,hcL,hch7⟩;obtain⟨tl,t0,t1,t2⟩:=R7.c3;clear hG hch hC7 R7 hG7 hch7 hcL X R hc;unfold put3 at hW7;go_wp2_with fail;rw [←hW7];exact bodyPost_ret (v:= .agg #[.slice na2 N2.length nc2,.slice ma2 mn2 mc2,.slice la2 ln2 lc2]) (by simp [results,Try.results63,go_sem,t0,t1,t2]) rfl HF.out
end Go.Proofs.Ytapfhhmimkkhnaa
