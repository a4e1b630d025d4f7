/-
  Messages put to Net: the specification's l12Net.
  A node put in its place, who leads noted: the specification's l12Set.
-/
import Derived.Test.YtapfhhmimkkhnaaCWToHM
import Derived.Test.YtapfhhmimkkhnaaNCToPLI
import Derived.Deep.Cut
namespace Go.Proofs.Ytapfhhmimkkhnaa
open Go.RowKit Go.Maps
set_option linter.unusedVariables false
set_option maxRecDepth 100000
set_option maxHeartbeats 16000000
theorem l12Net_any (lo hi:Nat) (vn vm vl:Value) (N:List Nv) (M:List Mv) (L:List Ld) (la:Option Addr) (lc:Nat) (A:List Mv) (b2:Nat) (w:World) (h:OwnC w lo hi vn vm vl N M L) (hr:w.ownsRow b2 38 9 (.slice la A.length lc) A.length (zu_ A)) (hne:∀b,(Value.slice la A.length lc).ownBlock=some b→¬vm.ownBlock=some b) (hh:hi≤w.heap.size) (hA:∀i (h:i<A.length),(∃c,PM w c A[i])∧A[i].q.es.length≤1000) (hM:M.length≤60) (hAn:A.length≤100):
  Calls Try.prog 162 #[.agg #[vn,vm,vl],.slice la A.length lc] w fun e w'=>∃um P,e= .returned (.agg #[vn,um,vl])∧OwnC w' lo w'.heap.size vn um vl N (M++P) L∧P.map Mv.q=(A.map Mv.q).take (60-M.length)∧Chg (fun b=>vm.ownBlock=some b) w w':=by
 obtain⟨⟨na,nc,rfl⟩,⟨ma,mc,rfl⟩,ya,yc,rfl⟩:=h.shapes;obtain⟨W0,hW0,hB,X,Z,hz0⟩:=al2 w [.slice na N.length nc,.slice ma M.length mc,.slice ya L.length yc] 60 z3 60;have hzw:=hB.size;have hlh:=h.lohi;have HOV:Hid (OwnC W0 lo hi (.slice na N.length nc) (.slice ma M.length mc) (.slice ya L.length yc) N M L):=h.below hB;have HBL:Hid (∀b,(.slice ma M.length mc:Value).ownBlock=some b→lo≤b∧b<hi):=fun b q=>⟨ze_ h.m b q,h.bm b q⟩;have r0:=zd_ hr hB;have hrb:∀b,(.slice la A.length lc:Value).ownBlock=some b→¬(.slice ma M.length mc:Value).ownBlock=some b∧b<w.heap.size:=fun b q=>⟨hne b q,zh_ hr b q⟩;have om0:=HOV.out.m;have HEA:Hid (∀i (hi:i<A.length),(∃c,PM W0 c A[i]∧∀b,BM A[i] b→¬(.slice ma M.length mc:Value).ownBlock=some b∧b<w.heap.size)∧A[i].q.es.length≤1000):=fun i hi=>by
  obtain⟨⟨c,hp⟩,hl⟩:=hA i hi;exact⟨⟨c,zd_ hp hB,fun b hb=>⟨PM.row_ne hp h.m (by decide) b hb,(PM.in hp b hb).2⟩⟩,hl⟩
 have HCW:Hid (Chg (fun b=>(.slice ma M.length mc:Value).ownBlock=some b) w W0):=Chg.of_below hB;clear h hr hne hB hA;go_enter Try.func162,Try.ntmps162;go_upto_region 1 with fail;rw [←hW0];clear hW0;go_wp2
 go_loopw [9] (fun i wr=>∃(k:Nat) (P:List Mv) (v:Value),i= .int .i64 k∧k≤A.length∧P.map Mv.q=(A.map Mv.q).take (min k (60-M.length))∧Box wr w.heap.size [.slice na N.length nc,v,.slice ya L.length yc]∧Box wr (w.heap.size+1) z3∧wr.ownsRow lo 38 9 v (M++P).length (zu_ (M++P))∧(∀b,v.ownBlock=some b→(.slice ma M.length mc:Value).ownBlock=some b∨W0.heap.size≤b)∧zz_ PM BM wr W0.heap.size wr.heap.size P∧Chg (fun b=>(.slice ma M.length mc:Value).ownBlock=some b∨b=w.heap.size) W0 wr) (fun i _=>A.length-(intOf i).toNat)
 case atStart=>exact⟨0,[],_,rfl,Nat.zero_le _,by simp,X,Z,by simpa using om0,fun b q=> .inl q,zz_.nil (Nat.le_refl _),Chg.refl _ _⟩
 case round=>
  clear X Z om0;obtain⟨k,P,v,rfl,hk,hP,X,Z,oR,hg,hch,hC⟩:=hrel;have HP:Hid (P.map Mv.q=(A.map Mv.q).take (min k (60-M.length))):=hP;obtain⟨hPl1,hPl2,hPl3⟩:P.length≤k∧P.length≤60-M.length∧(k≤P.length∨60-M.length≤P.length):=by
   have:=congrArg List.length hP;rw [List.length_map,List.length_take,List.length_map] at this;omega
  clear hP;obtain⟨MA,HMA⟩:∃MA,Hid (MA=M++P):=⟨M++P,(rfl:_=_)⟩;obtain⟨hMAl,hMAg⟩:MA.length≤M.length+P.length∧M.length+P.length≤MA.length:=by rw [HMA.out,List.length_append];omega
  rw [←HMA.out] at oR;obtain⟨va,vc,rfl⟩:=zf_ oR;have hzr:=hC.size;have hzx:=X.1;have rk:=hC.owns r0 (fun b hb hh=>by have:=hrb b hb;rcases hh with q | q;exact this.1 q;omega);have hvr:=zh_ oR;by_cases hlt:k<A.length
  ·obtain⟨g,rfl⟩:∃g,la=some ⟨g,0,none⟩:=by
    rcases r0.2 with⟨_,h0⟩ | ⟨g,cap,cur,hv,_⟩
    ·omega
    ·simp only [Value.slice.injEq] at hv;exact⟨g,hv.1⟩
   obtain⟨hgl,c0,c1,c2,c3,c4,c5,c6,c7,c8⟩:=ownM_at rk k hlt rfl;obtain⟨⟨cc,hpe,hpb⟩,hel⟩:=HEA.out k hlt;have hER:ER wr (.slice A[k].ea A[k].q.es.length A[k].ec) A[k].q.es:=zO_ (hC.owns hpe (fun b hb hh=>by have:=hpb b hb;rcases hh with q | q;exact this.1 q;omega)) rfl;obtain⟨y,HY⟩:∃y,Hid (A[k]=y):=⟨A[k],(rfl:A[k]=A[k])⟩;rw [HY.out] at c0 c1 c2 c3 c4 c5 c6 c7 c8 hel hER;clear hpe hpb HEA r0 rk;have hBA:=zc_ wr (.cells y 38);have T:=Box.new wr y 38;replace X:=X.below hBA;replace Z:=Z.below hBA;have o1:=zd_ oR hBA;have c1':=hch.belowM hBA;have hE1:=hER.below hBA;have hC1:=hC.trans (Chg.of_below hBA);have hza:(wr.alloc (.cells y 38)).heap.size=wr.heap.size+1:=by simp
   clear oR hch hC hBA hER;go_upto_region 4 with fail;obtain⟨Wa,hWa⟩:∃W,W=wr.alloc (.cells y 38):=⟨_,rfl⟩;rw [←hWa] at T X Z o1 c1' hE1 hC1 hza ⊢;clear hWa hgl c0 c1 c2 c3 c4 c5 c6 c7 c8;have HZA:Hid (Wa.heap.size=wr.heap.size+1):=hza;clear hza;obtain⟨xl,x0,x1,x2,f0,f1,f2⟩:=X.c3f;by_cases hm:MA.length<60;rotate_left
   ·have HPN:Hid (P.map Mv.q=(A.map Mv.q).take (min (k+1) (60-M.length))):=by
     show _=_;rw [HP.out,show min (k+1) (60-M.length)=min k (60-M.length) from by omega]
    have hz:=HZA.out;have c2':=c1'.hi (show wr.heap.size≤Wa.heap.size from by omega);clear HP c1' HZA hE1 hel;rw [HMA.out] at o1;have hma:¬((MA.length:Int)<60):=by omega
    rw [←HMA.out] at o1;go_wp2;go_roundw
    case rel=>exact⟨k+1,P,_,by go_num,by omega,HPN.out,X,Z,by rw [←HMA.out];exact o1,hg,c2',hC1⟩
    case measure=>simp [intOf];omega
   have hPk:k≤P.length:=by omega
   have hma:(MA.length:Int)<60:=by omega
   have HPN:Hid (∀x:Mv,x.q=y.q→(P++ [x]).map Mv.q=(A.map Mv.q).take (min (k+1) (60-M.length))):=fun x hx=>by
    rw [show min (k+1) (60-M.length)=k+1 from by omega,←List.map_take];have:=HP.out;rw [show min k (60-M.length)=k from by omega,←List.map_take] at this;exact map_more Mv.q P A k hlt this x (by rw [hx,HY.out])
   clear HP HY;obtain⟨tl,t0,t1,t2,t3,t4,t5,t6,t7,t8⟩:=T.e9;have oe:(Wa.alloc (.cells #[] 34)).ownsRow Wa.heap.size 34 2 (.slice (some ⟨Wa.heap.size,0,none⟩) 0 0) 0 (zE_ []):=World.ownsRow_lit Wa #[] 0 (Nat.le_refl _) (by simp [maxLen]) (by simp);have hBE:=zc_ Wa (.cells #[] 34);replace T:=T.below hBE;replace X:=X.below hBE;replace Z:=Z.below hBE;have o2:=zd_ o1 hBE;have c2':=c1'.belowM hBE;have hE:=hE1.below hBE;have hC2:=hC1.trans (Chg.of_below hBE);clear o1 c1' hC1 hBE hE1;go_wp2_with (at_builtin;refine zB_.go ?_);unfold zB_;refine zJ_ _ rfl _ _ rfl rfl Wa.heap.size _ 0 [] rfl oe _ y.q.es rfl hE (by omega) (by simp) ?_;intro ve w6 o6 hgr;have hb6:Below Wa.heap.size (Wa.alloc (.cells #[] 34)) w6:=(Below.refl _ _).grown hgr (by simp) (fun q hq=>by cases hq;exact Nat.le_refl _);simp only [Nat.zero_add,List.nil_append] at o6;obtain⟨xa,xc,rfl⟩:=zf_ o6;have hza:=HZA.out;have hzE:(Wa.alloc (.cells #[] 34)).heap.size=Wa.heap.size+1:=by simp
   have hz6:=hb6.size;replace T:=T.under hb6 (by omega);replace X:=X.under hb6 (by omega);replace Z:=Z.under hb6 (by omega);have hS6:Chg (fun b=>Wa.heap.size≤b) (Wa.alloc (.cells #[] 34)) w6:=⟨hb6.os,hb6.tape,hb6.output,hb6.size,fun q hq hs=>hb6.block q (by omega)⟩;have o3:=hS6.owns o2 (fun b hb hh=>by have:=hvr b hb;omega);have c3':=c2'.chgM hS6 (fun b hb=> .inr (by omega));have hC3:=hC2.nextC hS6 (fun b hb=> .inr (by omega));have hxb:=ze_ o6;obtain⟨tl,t0,t1,t2,t3,t4,t5,t6,t7,t8⟩:=T.e9;have ft6:=T.2.2 6;obtain⟨W7,hW7⟩:∃W,W=w6.setCell ⟨wr.heap.size,6,none⟩ (.slice xa y.q.es.length xc):=⟨_,rfl⟩;have hC7:Chg (fun b=>b=wr.heap.size) w6 W7:=by rw [hW7];exact Chg.setCell (S:=fun b=>b=wr.heap.size) (Chg.refl _ _) rfl _
   have T7:Box W7 wr.heap.size [y.q.ki,y.q.fr,y.q.dst,y.q.te,y.q.ix,y.q.be,.slice xa y.q.es.length xc,y.q.co,y.q.ye]:=by rw [hW7];exact T.set 6 _ (by simp)
   have o4:=hC7.owns o3 (fun b hb hh=>by have:=hvr b hb;omega);have c4':=c3'.chgM hC7 (fun b hb=> .inr (by omega));replace X:=hC7.box X (by omega);replace Z:=hC7.box Z (by omega);have hpx:PM W7 Wa.heap.size ⟨y.q,xa,xc⟩:=hC7.owns o6 (fun b hb hh=>by have:=hxb b hb;omega);have hC4:=hC3.nextC hC7 (fun b hb=> .inr (by omega));have hz7:=hC7.size;clear hgr hb6 hS6 o2 c2' hC2 o3 c3' hC3 o6 hxb oe hE hza xl x0 x1 x2 f0 f1 f2;go_upto_region 6 with fail;rw [←hW7];clear hW7 hC7 T tl t0 t1 t2 t3 t4 t5 t6 t7 t8 ft6;obtain⟨tl,t0,t1,t2,t3,t4,t5,t6,t7,t8⟩:=T7.e9;obtain⟨xl,x0,x1,x2,f0,f1,f2⟩:=X.c3f;have hBA:=zc_ W7 (.cells #[y.q.ki,y.q.fr,y.q.dst,y.q.te,y.q.ix,y.q.be,.slice xa y.q.es.length xc,y.q.co,y.q.ye] 38);have B8:=Box.new W7 #[y.q.ki,y.q.fr,y.q.dst,y.q.te,y.q.ix,y.q.be,.slice xa y.q.es.length xc,y.q.co,y.q.ye] 38;have o5:=zd_ o4 hBA;have c5':=c4'.belowM hBA;have X8:=X.below hBA;have Z8:=Z.below hBA;have hC5:=hC4.trans (Chg.of_below hBA);replace hpx:PM _ Wa.heap.size ⟨y.q,xa,xc⟩:=zd_ hpx hBA;have hhx:=PM.in hpx;have hz8:(W7.alloc (.cells #[y.q.ki,y.q.fr,y.q.dst,y.q.te,y.q.ix,y.q.be,.slice xa y.q.es.length xc,y.q.co,y.q.ye] 38)).heap.size=W7.heap.size+1:=by simp
   clear o4 c4' hC4 hBA Z;go_wp2_with (at_builtin;refine zB_.go ?_);unfold zB_;have hza:=HZA.out;have hlo:lo≤W7.heap.size:=by omega
   refine wpList_app_80 _ rfl _ _ rfl rfl lo _ MA.length (zu_ MA) rfl o5 _ 1 (zu_ [(⟨y.q,xa,xc⟩:Mv)]) rfl (rowIn_box B8 (by rfl)) (yb_ _) (by omega) (by omega) ?_;intro v' w9 o9 hgr hat;rw [←flatM_append] at o9;have hC9:=zm_ hgr;have hz9:=hC9.size;have hbx:∀b,(.slice va MA.length vc:Value).ownBlock=some b→¬b=w.heap.size∧¬b=w.heap.size+1:=fun b q=>by
    rcases hg b q with q2 | q2
    ·have:=HBL.out b q2;omega
    ·omega
   replace X8:=hC9.box X8 (fun q=>(hbx _ q).1 rfl);replace Z8:=hC9.box Z8 (fun q=>(hbx _ q).2 rfl);have hg9:∀b,v'.ownBlock=some b→(.slice ma M.length mc:Value).ownBlock=some b∨W0.heap.size≤b:=fun b q=>by
    rcases hat with q2 | q2
    ·rw [q2] at q;exact hg b q
    ·rw [q2] at q;injection q with q;right;omega
   have c6:=((c5'.hi (show wr.heap.size≤Wa.heap.size from by omega)).push hpx (fun b hb=>hhx b hb) (by omega));have c7':=(c6.mapI fun i hi c hp hb=>hC9.owns hp (fun b h1 h2=>PM.row_ne hp o5 (by decide) b h1 h2)).hi hz9;have hCa:=hC5.nextC hC9 (fun b q=>(hg b q).elim (fun q2=> .inl (.inl q2)) .inr);obtain⟨za,zc,rfl⟩:=zf_ o9;obtain⟨MB,HMB⟩:∃MB,Hid (MB=M++(P++ [(⟨y.q,xa,xc⟩:Mv)])):=⟨M++(P++ [(⟨y.q,xa,xc⟩:Mv)]),(rfl:_=_)⟩;rw [HMA.out,List.append_assoc,←HMB.out,show (M++P).length+1=MB.length from by rw [HMB.out];simp;omega] at o9;have HHB:Hid (MA.length+1=MB.length):=by show _=_;rw [HMB.out,HMA.out];simp;omega
   rw [HHB.out] at hg9 ⊢;obtain⟨Wz,hWz⟩:∃W,W=w9.setCell ⟨w.heap.size,1,none⟩ (.slice za MB.length zc):=⟨_,rfl⟩;have hCz:Chg (fun b=>b=w.heap.size) w9 Wz:=by rw [hWz];exact Chg.setCell (S:=fun b=>b=w.heap.size) (Chg.refl _ _) rfl _
   have Xz:Box Wz w.heap.size [.slice na N.length nc,.slice za MB.length zc,.slice ya L.length yc]:=by rw [hWz];exact X8.set 1 _ (by simp)
   have Zz:=hCz.box Z8 (by omega);have hzz:=hCz.size;have oz:=hCz.owns o9 (fun b hb hh=>by have hh:b=w.heap.size:=hh;rcases hg9 b hb with q | q;have:=HBL.out b q;omega;omega);have cz:=(c7'.chgM hCz (fun b hb=> .inl (by have hb:b=w.heap.size:=hb;omega))).hi hzz;have hCC:=hCa.trans (hCz.mono fun b hb=> .inr hb);have HQ:=HPN.out ⟨y.q,xa,xc⟩ rfl;have HQ:Hid _:=HQ;clear hgr hat hC9 o5 c5' c6 hC5 hpx hhx B8 hbx c7' hCa o9 HPN hza xl x0 x1 x2 f0 f1 f2;obtain⟨xl,x0,x1,x2,f0,f1,f2⟩:=X8.c3f;clear X8 Z8;go_wp2;rw [←hWz];clear hWz hCz;go_roundw
   case rel=>exact⟨k+1,P++ [⟨y.q,xa,xc⟩],_,by go_num,by omega,HQ.out,Xz,Zz,by rw [←HMB.out];exact oz,hg9,cz,hCC⟩
   case measure=>simp [intOf];omega
  ·obtain rfl:k=A.length:=by omega
   have HPF:Hid (P.map Mv.q=(A.map Mv.q).take (60-M.length)):=by
    show _=_;rw [HP.out];by_cases q:A.length≤60-M.length
    ·rw [Nat.min_eq_left q,List.take_of_length_le (by simp),List.take_of_length_le (by simpa using q)]
    ·rw [Nat.min_eq_right (by omega)]
   clear HP HEA r0 rk;obtain⟨W5,hW5,hC5,Z5⟩:=zq_ wr Z (.slice na N.length nc) (.slice va MA.length vc) (.slice ya L.length yc);have hz5:=hC5.size;have o5:=hC5.owns oR (fun b hb hh=>by have hh:b=w.heap.size+1:=hh;rcases hg b hb with q | q;have:=HBL.out b q;omega;omega);have c5':=(hch.chgM hC5 (fun b hb=> .inl (by have hb:b=w.heap.size+1:=hb;omega))).hi hz5;have hFF:Hid (OwnC W5 lo W5.heap.size (.slice na N.length nc) (.slice va MA.length vc) (.slice ya L.length yc) N MA L):=by
    have q:=HOV.out.push (A:=P) (hi':=W5.heap.size) (vm':= .slice va MA.length vc) (by rw [←HMA.out];exact o5) ((hC.mono fun b hb=>hb.elim .inl fun q=> .inr (by omega)).trans (hC5.mono fun b hb=> .inr (by have hb:b=w.heap.size+1:=hb;omega))) (fun b hb=>zh_ o5 b hb) (by omega) ((c5'.lo (by omega)));rw [←HMA.out] at q;exact q
   have hCF:Hid (Chg (fun b=>(.slice ma M.length mc:Value).ownBlock=some b) w W5):=(HCW.out.nextC hC fun b q=>q.elim .inl fun q=> .inr (by omega)).nextC hC5 fun b q=> .inr (by have q:b=w.heap.size+1:=q;omega);obtain⟨xl,x0,x1,x2⟩:=X.c3;obtain⟨zl,z0,z1,z2,f0,f1,f2⟩:=Z.c3f;obtain⟨tl,t0,t1,t2⟩:=Z5.c3;clear hC5 X Z Z5 o5 c5' oR hch hC HOV HCW hrb;unfold put3 at*;go_wp2;rw [←hW5];exact bodyPost_ret (v:= .agg #[.slice na N.length nc,.slice va MA.length vc,.slice ya L.length yc]) (by simp [results,Try.results162,go_sem,t0,t1,t2]) rfl ⟨_,P,rfl,by rw [←HMA.out];exact hFF.out,HPF.out,hCF.out⟩
theorem OwnC.both {W W':World} {lo hi hi':Nat} {vn vm vl vl':Value} {N:List Nv} {M:List Mv} {L L':List Ld} (h:OwnC W lo hi vn vm vl N M L) (j:Nat) (x:Nv) (ho:W'.ownsRow lo 26 9 vn N.length (zH_ (N.set j x))) (hl:W'.ownsRow lo 116 2 vl' L'.length (flatL L')) (hC:Chg (fun b=>vn.ownBlock=some b∨vl.ownBlock=some b∨hi≤b) W W') (hx:PN W' hi x) (hlt:∀b,BN x b→b<hi') (hv:∀b,vl'.ownBlock=some b→b<hi') (hh:hi≤hi'):OwnC W' lo hi' vn vm vl' (N.set j x) M L':=by
 obtain⟨c1,c2⟩:=h.chains hC fun b q=>q.elim .inl fun q=> .inr (.inr q);refine⟨by rw [List.length_set];exact ho,hC.owns h.m fun b hb q=>q.elim (zi_ h.m h.n (by decide) b hb) fun q=>q.elim (zi_ h.m h.l (by decide) b hb) fun q=>by have:=h.bm b hb;omega,hl,?_,c2.hi hh,?_,fun b hb=>Nat.lt_of_lt_of_le (h.bn b hb) hh,fun b hb=>Nat.lt_of_lt_of_le (h.bm b hb) hh,hv⟩
 ·refine (c1.hi hh).put j x ⟨hi,h.lohi,hx⟩ (fun b hb=>⟨Nat.le_trans h.lohi (PN.in hx b hb).1,hlt b hb⟩) fun i hi' hij b h1 h2=> ?_;have:=(PN.in hx b h1).1;have:=((h.cn.2.1 i hi').2 b h2).2;omega
 ·intro i k h1 h2 b;simp only [List.length_set] at h1;by_cases hij:j=i
  ·subst hij;simp only [List.getElem_set_self];intro q1 q2;have:=(PN.in hx b q1).1;have:=((h.cm.2.1 k h2).2 b q2).2;omega
  ·simp only [List.getElem_set_ne hij];exact h.ap i k h1 h2 b
theorem l12Set_raw (lo hi:Nat) (vn vm vl:Value) (N:List Nv) (M:List Mv) (L:List Ld) (j:Nat) (hj:j<N.length) (pe te vo co ro:Int) (la:Option Addr) (lc:Nat) (va:Option Addr) (vc:Nat) (ma2:Option Addr) (mc2:Nat) (log:List En) (vs mt:List Int) (w:World) (h:OwnC w lo hi vn vm vl N M L) (hx:PN w hi ⟨⟨j,pe,te,vo,co,ro,log,vs,mt⟩,la,lc,va,vc,ma2,mc2⟩) (hh:hi≤w.heap.size) (hL:L.length≤1000):
  Calls Try.prog 163 #[.agg #[vn,vm,vl],.agg #[j,pe,te,vo,.slice la log.length lc,co,ro,.slice va vs.length vc,.slice ma2 mt.length mc2]] w fun e w'=>∃ul,e= .returned (.agg #[vn,vm,ul])∧OwnC w' lo w'.heap.size vn vm ul (N.set j ⟨⟨j,pe,te,vo,co,ro,log,vs,mt⟩,la,lc,va,vc,ma2,mc2⟩) M (zQ_ L N[j].n ⟨j,pe,te,vo,co,ro,log,vs,mt⟩)∧Chg (fun b=>vn.ownBlock=some b∨vl.ownBlock=some b) w w':=by
 obtain⟨⟨na,nc,rfl⟩,⟨ma,mc,rfl⟩,ya,yc,rfl⟩:=h.shapes;obtain⟨g,rfl⟩:∃g,na=some ⟨g,0,none⟩:=by
  rcases h.n.2 with⟨_,h0⟩ | ⟨g,cap,cur,hv,_⟩
  ·omega
  ·simp only [Value.slice.injEq] at hv;exact⟨g,hv.1⟩
 obtain⟨W0,hW0,hB,X,Y,Z,hz0⟩:=al3 w [.slice (some ⟨g,0,none⟩) N.length nc,.slice ma M.length mc,.slice ya L.length yc] 60 [j,pe,te,vo,.slice la log.length lc,co,ro,.slice va vs.length vc,.slice ma2 mt.length mc2] 26 z3 60;have hzw:w.heap.size≤W0.heap.size:=hB.size;have HCB:Hid (Chg (fun b=>(.slice (some ⟨g,0,none⟩) N.length nc:Value).ownBlock=some b∨(.slice ya L.length yc:Value).ownBlock=some b) w W0):=Chg.of_below hB;have hgi:lo≤g∧g<hi:=⟨ze_ h.n g rfl,h.bn g rfl⟩;have hli:∀b,(Value.slice ya L.length yc).ownBlock=some b→lo≤b∧b<hi:=fun b hb=>⟨ze_ h.l b hb,h.bl b hb⟩;have hlg:∀b,(Value.slice ya L.length yc).ownBlock=some b→¬b=g:=fun b hb e=>zi_ h.l h.n (by decide) b hb (by rw [e];rfl);have h0:=h.below hB;have hxb:∀b,BN ⟨⟨j,pe,te,vo,co,ro,log,vs,mt⟩,la,lc,va,vc,ma2,mc2⟩ b→hi≤b∧b<w.heap.size:=PN.in hx;have HXP:Hid (PN W0 hi ⟨⟨j,pe,te,vo,co,ro,log,vs,mt⟩,la,lc,va,vc,ma2,mc2⟩):=OwnN.below hx hB;clear h hx hB;obtain⟨y,HY⟩:∃y,Hid (N[j]=y):=⟨N[j],(rfl:N[j]=N[j])⟩;have hN:=h0.n;have HOV:Hid (OwnC W0 lo hi (.slice (some ⟨g,0,none⟩) N.length nc) (.slice ma M.length mc) (.slice ya L.length yc) N M L):=h0;obtain⟨hgl,c0,c1,c2,c3,c4,c5,c6,c7,c8⟩:=zZ_ hN j hj rfl;rw [HY.out] at c0 c1 c2 c3 c4 c5 c6 c7 c8;have V:=Box.new W0 y 26;have hBA:=zc_ W0 (.cells y 26);have hs1:(W0.alloc (.cells y 26)).heap.size=W0.heap.size+1:=by simp
 obtain⟨xl,x0,x1,x2,xf0,xf1,xf2⟩:=X.c3f;obtain⟨yyl,y0,y1,y2,y3,y4,y5,y6,y7,y8⟩:=Y.e9;go_enter Try.func163,Try.ntmps163;go_upto_region 1 with fail;rw [←hW0];clear hW0;go_upto_region 2 with fail;obtain⟨W1,hW1⟩:∃W,W=W0.alloc (.cells y 26):=⟨_,rfl⟩;rw [←hW1] at V hBA hs1 ⊢;have hs2:W0.heap.size≤W1.heap.size:=by omega
 clear hs1;clear hW1 c0 c1 c2 c3 c4 c5 c6 c7 c8 hgl xl x0 x1 x2 xf0 xf1 xf2 yyl y0 y1 y2 y3 y4 y5 y6 y7 y8 h0;have X1:=X.below hBA;have Y1:=Y.below hBA;have Z1:=Z.below hBA;have o1:=zd_ hN hBA;have ol1:=zd_ HOV.out.l hBA;have HC1:Hid (Chg (fun b=>b=g) W0 W1):=Chg.of_below hBA;clear hBA hN X Y Z;obtain⟨xl,x0,x1,x2,xf0,xf1,xf2⟩:=X1.c3f;obtain⟨yyl,y0,y1,y2,y3,y4,y5,y6,y7,y8⟩:=Y1.e9;obtain⟨vvl,v0,v1,v2,v3,v4,v5,v6,v7,v8⟩:=V.e9;obtain⟨cb,hcb⟩:∃cb:Bool,Hid (cb=decide (ro=2∧¬(y.n.ro=2∧y.n.te=te)∧L.length<1000)):=⟨_,(rfl:decide (ro=2∧¬(y.n.ro=2∧y.n.te=te)∧L.length<1000)=_)⟩;have hL1:(L.length:Int)≤1000:=by omega
 go_cut [32] from 6 (fun t wq=>t= .bool cb∧wq=W1)
 case first=>
  have hl:=hcb.out;clear hcb;by_cases q0:ro=2
  ·have q1:Hid (ro=2):=q0;have b1:(ro==2)=true:=by simp [q0]
   have b2:decide (ro=2)=true:=by simp [q0]
   clear q0;by_cases q2:y.n.ro=2
   ·by_cases q3:y.n.te=te
    ·go_wp2_with fail;go_meet
     case rel=>exact⟨by rw [hl];simp [q1.out,q2,q3],by first | trivial | rfl⟩
    ·by_cases q4:L.length<1000
     ·have q5:(L.length:Int)<1000:=by omega
      go_wp2_with fail;go_meet
      case rel=>exact⟨by rw [hl];simp [q1.out,q2,q3,q4],by first | trivial | rfl⟩
     ·have q5:¬(L.length:Int)<1000:=by omega
      go_wp2_with fail;go_meet
      case rel=>exact⟨by rw [hl];simp [q1.out,q2,q3,q4],by first | trivial | rfl⟩
   ·by_cases q4:L.length<1000
    ·have q5:(L.length:Int)<1000:=by omega
     go_wp2_with fail;go_meet
     case rel=>exact⟨by rw [hl];simp [q1.out,q2,q4],by first | trivial | rfl⟩
    ·have q5:¬(L.length:Int)<1000:=by omega
     go_wp2_with fail;go_meet
     case rel=>exact⟨by rw [hl];simp [q1.out,q2,q4],by first | trivial | rfl⟩
  ·go_wp2_with fail;go_meet
   case rel=>exact⟨by rw [hl];simp [q0],by first | trivial | rfl⟩
 case rest=>
  obtain⟨rfl,hwc⟩:=hcut;rw [hwc];clear hwc vvl v0 v1 v2 v3 v4 v5 v6 v7 v8 V;have HNL:Hid (zQ_ L N[j].n ⟨j,pe,te,vo,co,ro,log,vs,mt⟩=if cb=true then L++ [⟨te,j⟩] else L):=by
   show _=_;unfold zQ_;rw [hcb.out,HY.out];simp only [decide_eq_true_eq]
  clear hcb
  cases cb with
  | false=>
   have hnl:Hid (zQ_ L N[j].n ⟨j,pe,te,vo,co,ro,log,vs,mt⟩=L):=by show _=_;rw [HNL.out];simp
   clear HNL;go_upto_region 4 with fail;have o2:=setNw_owns o1 j ⟨⟨j,pe,te,vo,co,ro,log,vs,mt⟩,la,lc,va,vc,ma2,mc2⟩;have hC2:=setNw_chg W1 g j ⟨⟨j,pe,te,vo,co,ro,log,vs,mt⟩,la,lc,va,vc,ma2,mc2⟩;obtain⟨W2,hW2⟩:∃W,W=setNw W1 g j ⟨⟨j,pe,te,vo,co,ro,log,vs,mt⟩,la,lc,va,vc,ma2,mc2⟩:=⟨_,rfl⟩;rw [←hW2] at o2 hC2;have X2:=hC2.box X1 (by omega);have Z2:=hC2.box Z1 (by omega);have hz2:=hC2.size;obtain⟨hgl,c0,c1,c2,c3,c4,c5,c6,c7,c8⟩:=zZ_ o1 j hj rfl;obtain⟨f0,f1,f2,f3,f4,f5,f6,f7,f8⟩:=frz9 o1 (j*9);unfold setNw set9 at hW2;go_upto_region 5 with fail;rw [←hW2];clear hW2 c0 c1 c2 c3 c4 c5 c6 c7 c8 hgl f0 f1 f2 f3 f4 f5 f6 f7 f8 xl x0 x1 x2 xf0 xf1 xf2 yyl y0 y1 y2 y3 y4 y5 y6 y7 y8 o1 X1 Y1 Z1;obtain⟨W5,hW5,hC5,Z5⟩:=zq_ W2 Z2 (.slice (some ⟨g,0,none⟩) N.length nc) (.slice ma M.length mc) (.slice ya L.length yc);have hz5:=hC5.size;have o5:=hC5.owns o2 (fun b hb hh=>by simp only [Value.ownBlock,Option.some.injEq] at hb;have hh:b=w.heap.size+1+1:=hh;omega);have hS:Chg (fun b=>b=g∨b=w.heap.size+1+1) W0 W5:=((HC1.out.mono fun b hb=> .inl hb).trans (hC2.mono fun b hb=> .inl hb)).trans (hC5.mono fun b hb=> .inr hb);have hFF:Hid (OwnC W5 lo W5.heap.size (.slice (some ⟨g,0,none⟩) N.length nc) (.slice ma M.length mc) (.slice ya L.length yc) (N.set j ⟨⟨j,pe,te,vo,co,ro,log,vs,mt⟩,la,lc,va,vc,ma2,mc2⟩) M L):=HOV.out.setN j _ o5 (hS.mono fun b hb=>hb.elim (fun q=> .inl (by rw [q];rfl)) fun q=> .inr (by omega)) (OwnN.chg HXP.out hS (fun b hb q=>by have:=hxb b hb;omega)) (fun b hb=>by have:=hxb b hb;omega) (by omega);have hCF:Hid (Chg (fun b=>(.slice (some ⟨g,0,none⟩) N.length nc:Value).ownBlock=some b∨(.slice ya L.length yc:Value).ownBlock=some b) w W5):=HCB.out.nextC hS fun b q=>q.elim (fun q=> .inl (.inl (by rw [q];rfl))) fun q=> .inr (by omega);clear hS;clear hC5 o2 hC2 o5 HOV HXP HCB HC1;obtain⟨xl,x0,x1,x2⟩:=X2.c3;obtain⟨ztl,zz0,zz1,zz2,zf0,zf1,zf2⟩:=Z2.c3f;clear Z2 X2;obtain⟨tl,t0,t1,t2⟩:=Z5.c3;clear Z5;unfold put3 at*;go_wp2;rw [←hW5];exact bodyPost_ret (v:= .agg #[.slice (some ⟨g,0,none⟩) N.length nc,.slice ma M.length mc,.slice ya L.length yc]) (by simp [results,Try.results163,go_sem,t0,t1,t2]) rfl ⟨_,rfl,by rw [hnl.out];exact hFF.out,hCF.out⟩
  | true=>
   obtain⟨LA,HLA⟩:∃LA:List Ld,Hid (LA=L++ [(⟨te,(j:Int)⟩:Ld)]):=⟨L++ [(⟨te,(j:Int)⟩:Ld)],(rfl:L++ [(⟨te,(j:Int)⟩:Ld)]=_)⟩;have hnl:Hid (zQ_ L N[j].n ⟨j,pe,te,vo,co,ro,log,vs,mt⟩=LA):=by show _=_;rw [HNL.out,HLA.out];simp
   clear HNL;have hBa:=zc_ W1 (.cells #[te,j] 116);have hMB:=Box.new W1 #[te,j] 116;have oa:=zd_ ol1 hBa;have na1:=zd_ o1 hBa;have xa:=X1.below hBa;have yaa:=Y1.below hBa;have za:=Z1.below hBa;have hza:(W1.alloc (.cells #[te,j] 116)).heap.size=W1.heap.size+1:=by simp
   go_wp2_with (at_builtin;refine zB_.go ?_);unfold zB_;refine wpList_app_34 _ rfl _ _ rfl rfl lo _ L.length (flatL L) rfl oa _ 1 (flatL [⟨te,(j:Int)⟩]) rfl (rowIn_box hMB (by rfl)) (flatL_one _) (by omega) (by omega) ?_;intro u w3 o3 hgr hat;rw [←flatL_append] at o3;have hll:L.length+1=LA.length:=by rw [HLA.out];simp
   rw [hll,←HLA.out] at o3;have hC3:=zm_ hgr;have hg3:∀b,u.ownBlock=some b→(b<hi∧¬b=g)∨W1.heap.size<b:=fun b hb=>by
    rcases hat with q | q
    ·rw [q] at hb;exact .inl ⟨(hli b hb).2,hlg b hb⟩
    ·rw [q] at hb;injection hb with hb;omega
   have x3:=hC3.box xa (by intro hb;have:=hli _ hb;omega);have y3':=hC3.box yaa (by intro hb;have:=hli _ hb;omega);have z3:=hC3.box za (by intro hb;have:=hli _ hb;omega);have n3:=hC3.owns na1 (fun b hb hh=>by simp only [Value.ownBlock,Option.some.injEq] at hb;exact hlg b hh hb.symm);have hz3:=hC3.size;have HC3:Hid (Chg (fun b=>(Value.slice ya L.length yc).ownBlock=some b) W1 w3):=(Chg.of_below hBa).trans hC3;clear hgr hat hC3 hMB oa xa za hBa hll yaa na1 o1 ol1 xl x0 x1 x2 xf0 xf1 xf2 yyl y0 y1 y2 y3 y4 y5 y6 y7 y8 X1 Y1 Z1;obtain⟨ua,uc,rfl⟩:=zf_ o3;obtain⟨W4,hW4⟩:∃W,W=w3.setCell ⟨w.heap.size,2,none⟩ (.slice ua LA.length uc):=⟨_,rfl⟩;have hC4:Chg (fun b=>b=w.heap.size) w3 W4:=by rw [hW4];exact Chg.setCell (S:=fun b=>b=w.heap.size) (Chg.refl _ _) rfl _
   have X1:Box W4 w.heap.size [.slice (some ⟨g,0,none⟩) N.length nc,.slice ma M.length mc,.slice ua LA.length uc]:=by rw [hW4];exact x3.set 2 _ (by simp)
   have Y1:=hC4.box y3' (by omega);have Z1:=hC4.box z3 (by omega);have o1:=hC4.owns n3 (fun b hb hh=>by simp only [Value.ownBlock,Option.some.injEq] at hb;have hh:b=w.heap.size:=hh;omega);have o4:=hC4.owns o3 (fun b hb hh=>by have:=hg3 b hb;have hh:b=w.heap.size:=hh;omega);have hz4:=hC4.size;obtain⟨xl,x0,x1,x2,xf0,xf1,xf2⟩:=x3.c3f;clear x3 y3' z3 n3;go_upto_region 4 with fail;rw [←hW4];clear hW4 xl x0 x1 x2 xf0 xf1 xf2;obtain⟨xl,x0,x1,x2,xf0,xf1,xf2⟩:=X1.c3f;obtain⟨yyl,y0,y1,y2,y3,y4,y5,y6,y7,y8⟩:=Y1.e9;have o2:=setNw_owns o1 j ⟨⟨j,pe,te,vo,co,ro,log,vs,mt⟩,la,lc,va,vc,ma2,mc2⟩;have hC2:=setNw_chg W4 g j ⟨⟨j,pe,te,vo,co,ro,log,vs,mt⟩,la,lc,va,vc,ma2,mc2⟩;obtain⟨W2,hW2⟩:∃W,W=setNw W4 g j ⟨⟨j,pe,te,vo,co,ro,log,vs,mt⟩,la,lc,va,vc,ma2,mc2⟩:=⟨_,rfl⟩;rw [←hW2] at o2 hC2;have X2:=hC2.box X1 (by omega);have Z2:=hC2.box Z1 (by omega);have hz2:=hC2.size;obtain⟨hgl,c0,c1,c2,c3,c4,c5,c6,c7,c8⟩:=zZ_ o1 j hj rfl;obtain⟨f0,f1,f2,f3,f4,f5,f6,f7,f8⟩:=frz9 o1 (j*9);unfold setNw set9 at hW2;go_upto_region 5 with fail;rw [←hW2];clear hW2 c0 c1 c2 c3 c4 c5 c6 c7 c8 hgl f0 f1 f2 f3 f4 f5 f6 f7 f8 xl x0 x1 x2 xf0 xf1 xf2 yyl y0 y1 y2 y3 y4 y5 y6 y7 y8 o1 X1 Y1 Z1;obtain⟨W5,hW5,hC5,Z5⟩:=zq_ W2 Z2 (.slice (some ⟨g,0,none⟩) N.length nc) (.slice ma M.length mc) (.slice ua LA.length uc);have hz5:=hC5.size;have o5:=hC5.owns o2 (fun b hb hh=>by simp only [Value.ownBlock,Option.some.injEq] at hb;have hh:b=w.heap.size+1+1:=hh;omega);have l5:=(hC2.mono (T:=fun b=>b=g∨b=w.heap.size+1+1) fun b hb=> .inl hb).trans (hC5.mono fun b hb=> .inr hb) |>.owns o4 (fun b hb hh=>by have:=hg3 b hb;omega);have hS:Chg (fun b=>b=g∨(Value.slice ya L.length yc).ownBlock=some b∨b=w.heap.size∨b=w.heap.size+1+1) W0 W5:=((((HC1.out.mono fun b hb=> .inl hb).trans (HC3.out.mono fun b hb=> .inr (.inl hb))).trans (hC4.mono fun b hb=> .inr (.inr (.inl hb)))).trans (hC2.mono fun b hb=> .inl hb)).trans (hC5.mono fun b hb=> .inr (.inr (.inr hb)));have hFF:Hid (OwnC W5 lo W5.heap.size (.slice (some ⟨g,0,none⟩) N.length nc) (.slice ma M.length mc) (.slice ua LA.length uc) (N.set j ⟨⟨j,pe,te,vo,co,ro,log,vs,mt⟩,la,lc,va,vc,ma2,mc2⟩) M LA):=HOV.out.both j _ o5 l5 (hS.mono fun b hb=>by
    rcases hb with q | q | q
    ·exact .inl (by rw [q];rfl)
    ·exact .inr (.inl q)
    ·exact .inr (.inr (by omega))) (OwnN.chg HXP.out hS (fun b hb q=>by
    have:=hxb b hb;rcases q with q | q | q
    ·omega
    ·have:=hli b q;omega
    ·omega)) (fun b hb=>by have:=hxb b hb;omega) (fun b hb=>zh_ l5 b hb) (by omega)
   have hCF:Hid (Chg (fun b=>(.slice (some ⟨g,0,none⟩) N.length nc:Value).ownBlock=some b∨(.slice ya L.length yc:Value).ownBlock=some b) w W5):=HCB.out.nextC hS fun b q=>by
    rcases q with q | q | q
    ·exact .inl (.inl (by rw [q];rfl))
    ·exact .inl (.inr q)
    ·exact .inr (by omega)
   clear hS l5 o4 hC4 HC3;clear hC5 o2 hC2 o5 HOV HXP HCB HC1;obtain⟨xl,x0,x1,x2⟩:=X2.c3;obtain⟨ztl,zz0,zz1,zz2,zf0,zf1,zf2⟩:=Z2.c3f;clear Z2 X2;obtain⟨tl,t0,t1,t2⟩:=Z5.c3;clear Z5;unfold put3 at*;go_wp2;rw [←hW5];exact bodyPost_ret (v:= .agg #[.slice (some ⟨g,0,none⟩) N.length nc,.slice ma M.length mc,.slice ua LA.length uc]) (by simp [results,Try.results163,go_sem,t0,t1,t2]) rfl ⟨_,rfl,by rw [hnl.out];exact hFF.out,hCF.out⟩
theorem l12SetV (lo hi:Nat) (vn vm vl:Value) (N:List Nv) (M:List Mv) (L:List Ld) (x:Nv) (j:Nat) (hid:x.n.id=(j:Int)) (hj:j<N.length) (w:World) (h:OwnC w lo hi vn vm vl N M L) (hx:PN w hi x) (hh:hi≤w.heap.size) (hL:L.length≤1000):
  Calls Try.prog 163 #[.agg #[vn,vm,vl],.agg x] w fun e w'=>∃ul,e= .returned (.agg #[vn,vm,ul])∧OwnC w' lo w'.heap.size vn vm ul (N.set j x) M (zQ_ L N[j].n x.n)∧Chg (fun b=>vn.ownBlock=some b∨vl.ownBlock=some b) w w':=by
 obtain⟨⟨id,pe,te,vo,co,ro,log,vs,mt⟩,la,lc,va,vc,ma,mc'⟩:=x;dsimp only at hid;subst hid;exact l12Set_raw lo hi vn vm vl N M L j hj pe te vo co ro la lc va vc ma mc' log vs mt w h hx hh hL
end Go.Proofs.Ytapfhhmimkkhnaa
