/-
  The walk of FnSafety.
  From the reading of an argument to the lists that the contracts speak of: a slice of bytes that came in.
-/
import Derived.Test.YtapfhhmimkkhnaaGreatDGToCQi
import Derived.ChangeSlices
namespace Go.Proofs.YtapfhhmimkkhnaaGreat
open Go.RowKit Go.Maps
set_option linter.unusedVariables false
set_option maxRecDepth 100000
set_option maxHeartbeats 16000000
theorem law5 (v:Value) (l:List UInt8) (w:World) (hv:YL w v l) (hl:l.length≤9223372036854775807):
  Calls Tryz.prog 5 #[v] w fun e w'=>e= .returned (.bool true)∧Below w.heap.size w w':=by
 have DR:=qo_ v l w hv hl;obtain⟨a,cap,rfl,_⟩:=hv;go_enter Tryz.func5,Tryz.ntmps5;by_cases hsz:(1048576:Int)<(l.length:Int)
 ·clear DR;go_wp2;go_ret;exact⟨rfl,Below.refl _ _⟩
 go_wp2_with fail;refine DR.mono ?_;rintro e w0 ⟨⟨pe,sv,L,rfl,oL,hlen,hd⟩,hB⟩;have hz0:=hB.size;clear DR;have PY:=qa_ pe sv L w0 _ oL (by omega) (rB_ hd);obtain⟨sa,sc,rfl⟩:=ze_ oL;have RB:=fun {N:List Nv} {M:List Mv} =>qL_ pe L (N:=N) (M:=M);have RF:plOk pe L=true→1≤pe∧pe≤7∧PF pe.toNat (plR (plOk pe L) pe.toNat L):=fun h=>by have:=plR_pf h;rw [h];exact this
 generalize plR (plOk pe L) pe.toNat L=R at*;generalize plOk pe L=ok at*;obtain⟨Rn,Rm,Rl⟩:=R;dsimp only at RB RF;clear hd oL;go_wp2_with fail;refine PY.mono ?_;rintro e w1 ⟨⟨un,um,ul,N,M,rfl,O,hN,hM⟩,hb⟩;dsimp only at O hN hM;have hCS:=(RB hN hM).1;replace hB:=za_ hB hb;have hz1:=hb.size;clear hb PY RB;obtain⟨⟨na,nc,h1⟩,⟨ma,mc,h2⟩,la,lc,h3⟩:=O.shapes;subst h1 h2 h3;obtain⟨Wp,hWp⟩:∃W,W=w1.alloc (.cells #[.slice na N.length nc,.slice ma M.length mc,.slice la Rl.length lc] 30):=⟨_,rfl⟩;have bx:=zb_ w1 (.cells #[.slice na N.length nc,.slice ma M.length mc,.slice la Rl.length lc] 30);have P:=Box.new w1 #[.slice na N.length nc,.slice ma M.length mc,.slice la Rl.length lc] 30;rw [←hWp] at bx P;replace O:=O.below bx;replace hB:=za_ hB bx;have hz2:=bx.size;clear bx
 cases ok with
 | false=>
  clear RF O P hN hM hCS;go_wp2;go_ret;exact⟨rfl,by rw [←hWp];exact hB⟩
 | true=>
  obtain⟨p1,p7,PFh⟩:=RF rfl;have PFN:PF pe.toNat ⟨N.map Nv.n,M.map Mv.q,Rl⟩:=by rw [hN,hM];exact PFh
  have G:zU_ (N.map Nv.n) (M.map Mv.q) Rl=true:=PFN.g.good;have HCP:∀i (h:i<N.length),N[i].n.log.length≤N[i].lc:=fun i h=>by obtain⟨_,_,q,_⟩:=O.cn.at i h;exact (xi_ q.l).1
  have hCQ:CQ N:=fun i h=>⟨by obtain⟨_,_,q,_⟩:=O.cn.at i h;exact Nn.own q.l,HCP i h⟩;have K:=ql_ _ _ _ N M Rl Wp O.cr hCS hCQ;rw [G] at K;have HCM:Hid (∀m:Nat,(∀i (hi:i<N.length),(m:Int)≤N[i].n.co)→(∃i,∃hi:i<N.length,N[i].n.co=(m:Int))→(cmL true (N.map Nv.n)).length=m):=fun m h1 h2=>by
   refine PFN.common m (fun i hi=> ?_) ?_
   ·simp only [List.getElem_map];exact h1 i (by simpa using hi)
   ·obtain⟨i,hi,e⟩:=h2;exact⟨i,by simpa using hi,by simpa using e⟩
  have HSF:Hid (∀i j (hi:i<N.length) (hj:j<N.length) (c:Nat),(c:Int)≤N[i].n.co→(c:Int)≤N[j].n.co→Has N[i].n.log N[j].n.log c):=fun i j hi hj c h1 h2=>by
   have:=PFN.f.safety i j c (by simpa using hi) (by simpa using hj) (by simp only [List.getElem_map];omega) (by simp only [List.getElem_map];omega);simpa using this
  have HCO:∀i (h:i<N.length),0≤N[i].n.co∧N[i].n.co≤60:=fun i h=>by
   have:=PFN.g.co i (by simpa using h);simp only [List.getElem_map] at this;omega
  have hNp:1≤N.length:=by have:=PFN.g.n;have:=PFN.g.p1;simp only [List.length_map] at*;omega
  have hMl:M.length≤60:=by have:=PFN.g.m6;simpa using this
  have HPF:Hid (PF pe.toNat ⟨N.map Nv.n,M.map Mv.q,Rl⟩):=PFN;have HO:Hid (OwnC Wp w.heap.size Wp.heap.size (.slice na N.length nc) (.slice ma M.length mc) (.slice la Rl.length lc) N M Rl):=(O.hiN (by omega)).loN (by omega);have hcap:N.length≤nc:=(xi_ O.n).1;generalize (cmL true (N.map Nv.n)).length=cl at*;obtain⟨a1,c1,e1,HC⟩:=O.cr.n;injection e1 with e1 f1 g1;subst e1 g1;clear f1;have HE:=O.cr.ne;have nN:=hCS.n;have nE:=hCS.ne;clear PFN G PFh RF hN hM hCS O hCQ;obtain⟨xl,x0,x1,x2⟩:=P.c3;go_wp2_with fail;rw [←hWp];clear hWp;refine K.mono ?_;rintro e W2 ⟨u,rfl,OU,hb⟩;obtain⟨ua,uc,rfl⟩:=ze_ OU;replace P:=P.below hb;replace hB:=za_ hB hb;have hz3:=hb.size;clear K xl x0 x1 x2 OU;obtain⟨xl,x0,x1,x2⟩:=P.c3;have HP:Hid (Box W2 w1.heap.size [.slice na N.length nc,.slice ma M.length mc,.slice la Rl.length lc]):=P;clear P;have HB:Hid (Below w.heap.size w W2):=hB;have HBp:Hid (Below Wp.heap.size Wp W2):=hb;clear hB hb;go_wp2_with fail
  go_loopw [10,53] (fun tm i wr=>∃k m:Nat,k≤N.length∧m≤60∧i= .int .i64 k∧tm= .int .i64 m∧(∀j (h:j<N.length),j<k→(m:Int)≤N[j].n.co)∧(m=60∨∃j,∃h:j<N.length,N[j].n.co=(m:Int))∧Below W2.heap.size W2 wr) (fun _ i _=>N.length-(intOf i).toNat)
  case atStart=>exact⟨0,60,Nat.zero_le _,Nat.le_refl _,rfl,rfl,fun j h hj=>absurd hj (Nat.not_lt_zero _),.inl rfl,Below.refl _ _⟩
  case round=>
   obtain⟨i,m,hi,hm60,rfl,rfl,HLE0,HEX0,hb⟩:=hrel;have HLE:Hid (∀j (h:j<N.length),j<i→(m:Int)≤N[j].n.co):=HLE0;have HEX:Hid (m=60∨∃j,∃h:j<N.length,N[j].n.co=(m:Int)):=HEX0;clear HLE0 HEX0;have hz:=hb.size;by_cases hlt:i<N.length;rotate_left
   ·have hcl:cl=m:=by
     refine HCM.out m (fun j hj=>HLE.out j hj (by omega)) ?_;rcases HEX.out with e | e
     ·exact⟨0,by omega,by have h1:=HLE.out 0 (by omega) (by omega);have h2:=HCO 0 (by omega);omega⟩
     ·exact e
    subst hcl;have P:=HP.out.below hb;have HF:Hid (Below w.heap.size w wr):=HB.out.trans (hb.mono (by omega));have HFp:Hid (Below Wp.heap.size Wp wr):=HBp.out.trans (hb.mono hz3);clear HLE HEX HCM HSF hb HB HBp HP x0 x1 x2;obtain⟨bN,oN,rfl,hbNl0,hcell0⟩:=HC (by intro e;simp [e] at hNp);have HCN:Hid (∀i (h:i<N.length),bN<Wp.heap.size∧Wp.cell? ⟨bN,oN+i*9+4,none⟩=some (.slice N[i].la N[i].n.log.length N[i].lc)∧Wp.cell? ⟨bN,oN+i*9+5,none⟩=some (.int .i64 N[i].n.co)):=fun i h=>⟨hbNl0,(hcell0 i h).2.2.2.2.1,(hcell0 i h).2.2.2.2.2.1⟩;clear HC hcell0;obtain⟨yl,y0,y1,y2⟩:=P.c3;go_wp2;have HP5:Hid (Box wr w1.heap.size [.slice (some ⟨bN,oN,none⟩) N.length nc,.slice ma M.length mc,.slice la Rl.length lc]):=P;clear P yl y0 y1 y2
    go_loopw [104] (fun q wm=>∃k:Nat,k≤M.length∧q= .int .i64 k∧Below wr.heap.size wr wm) (fun q _=>M.length-(intOf q).toNat)
    case atStart=>exact⟨0,Nat.zero_le _,rfl,Below.refl _ _⟩
    case round=>
     obtain⟨k,hk,rfl,hbm⟩:=hrel;have hzk:=hbm.size;by_cases hkm:k<M.length;rotate_left
     ·have hkm2:¬(k:Int)<(M.length:Int):=by omega
      have HG:Hid (Below w.heap.size w wr):=HF.out.trans (hbm.mono HF.out.size);clear HE nE HF HFp HO HPF HP5 hbm HCO HCN;go_wp2;go_ret;exact⟨rfl,HG.out⟩
     have hkmi:(k:Int)<(M.length:Int):=by omega
     have P2:=HP5.out.below hbm;have HFq:Hid (Below Wp.heap.size Wp wr):=HFp.out.trans (hbm.mono HFp.out.size);have hzq:=HFq.out.size;have OW:=HO.out.below HFq.out;obtain⟨hdn,hlen,hkeep⟩:=HPF.out.delivers (k:Int) ⟨2,0,(k:Int),0,⟨#[]⟩⟩ rfl rfl (by simp [isP];omega);dsimp only at hdn hlen hkeep;have KI:=vG_ pe.toNat w.heap.size Wp.heap.size _ _ _ N M Rl 2 0 (k:Int) 0 ⟨#[]⟩ wr OW HPF.out.g (by decide);have KS:Hid (∀W,Below wr.heap.size wr W→Calls Tryz.prog 16 #[.agg #[.slice (some ⟨bN,oN,none⟩) N.length nc,.slice ma M.length mc,.slice la Rl.length lc],.agg #[(2:Int),(0:Int),(k:Int),(0:Int),.string ⟨#[]⟩]] W fun e w'=>(∃(a1:Option Addr) (n1 d1:Nat) (a2:Option Addr) (n2 d2:Nat) (a3:Option Addr) (n3 d3:Nat),e= .returned (.tuple #[.agg #[.slice a1 n1 d1,.slice a2 n2 d2,.slice a3 n3 d3],true]))∧Below W.heap.size W w'):=fun W h=>uT_ pe.toNat w.heap.size Wp.heap.size _ _ _ N M Rl 2 0 (k:Int) 0 ⟨#[]⟩ W (OW.below h) HPF.out (by decide) hdn;rw [hdn] at KI;have HKP:Hid (∀i (hi:i<N.length) (hi2:i<(stN (N.map Nv.n) (M.map Mv.q) ⟨2,0,(k:Int),0,⟨#[]⟩⟩).length),N[i].n.co≤(stN (N.map Nv.n) (M.map Mv.q) ⟨2,0,(k:Int),0,⟨#[]⟩⟩)[i].co∧Has (stN (N.map Nv.n) (M.map Mv.q) ⟨2,0,(k:Int),0,⟨#[]⟩⟩)[i].log N[i].n.log N[i].n.co.toNat):=fun i hi hi2=>by
      have:=hkeep i (by simpa using hi) hi2;simpa using this
     have hlen2:(stN (N.map Nv.n) (M.map Mv.q) ⟨2,0,(k:Int),0,⟨#[]⟩⟩).length=N.length:=by rw [hlen];simp
     clear hkeep hdn hlen OW;generalize stN (N.map Nv.n) (M.map Mv.q) ⟨2,0,(k:Int),0,⟨#[]⟩⟩=N2 at*;generalize stM (N.map Nv.n) (M.map Mv.q) ⟨2,0,(k:Int),0,⟨#[]⟩⟩=M2 at*;generalize stL (N.map Nv.n) (M.map Mv.q) Rl ⟨2,0,(k:Int),0,⟨#[]⟩⟩=L2 at*;obtain⟨yl,y0,y1,y2⟩:=P2.c3;have HBm:Hid _:=hbm;clear hbm;go_wp2_with fail;refine KI.mono ?_;rintro e w3 ⟨⟨un,um,ul,rfl,hok,_⟩,hb3⟩;obtain⟨N',M',OD,hN',hM'⟩:=hok rfl;obtain⟨⟨ea,ec,rfl⟩,⟨fa,fc,rfl⟩,ga2,gc2,rfl⟩:=OD.shapes;have hz3':=hb3.size;have P3:=P2.below hb3;clear hok KI P2 yl y0 y1 y2;have bx:=zb_ w3 (.cells #[.slice ea N'.length ec,.slice fa M'.length fc,.slice ga2 L2.length gc2] 30);have D:=Box.new w3 #[.slice ea N'.length ec,.slice fa M'.length fc,.slice ga2 L2.length gc2] 30;replace P3:=P3.below bx;replace OD:=OD.below bx;have hb3':=za_ hb3 bx;have hzd:w3.heap.size<(w3.alloc (.cells #[.slice ea N'.length ec,.slice fa M'.length fc,.slice ga2 L2.length gc2] 30)).heap.size:=by simp
     obtain⟨yl,y0,y1,y2⟩:=P3.c3;go_wp2_with fail;refine (KS.out _ hb3').mono ?_;rintro e w4 ⟨⟨a1,n1,d1,a2,n2,d2,a3,n3,d3,rfl⟩,hb4⟩;have hz4:=hb4.size;replace P3:=P3.below hb4;replace OD:=OD.below hb4;replace D:=D.below hb4;have hb4':=za_ hb3' hb4;clear KS yl y0 y1 y2 hb3 hb3' bx hb4;have bx:=zb_ w4 (.cells #[.slice a1 n1 d1,.slice a2 n2 d2,.slice a3 n3 d3] 30);replace P3:=P3.below bx;replace OD:=OD.below bx;replace D:=D.below bx;have hb5':=za_ hb4' bx;have hze:w4.heap.size<(w4.alloc (.cells #[.slice a1 n1 d1,.slice a2 n2 d2,.slice a3 n3 d3] 30)).heap.size:=by simp
     obtain⟨yl,y0,y1,y2⟩:=D.c3;obtain⟨W6,hW6⟩:∃W,W=w4.alloc (.cells #[.slice a1 n1 d1,.slice a2 n2 d2,.slice a3 n3 d3] 30):=⟨_,rfl⟩;have HB6:Hid (Below wr.heap.size wr W6):=by rw [hW6];exact hb5'
     have P6:Hid (Box W6 w1.heap.size [.slice (some ⟨bN,oN,none⟩) N.length nc,.slice ma M.length mc,.slice la Rl.length lc]):=by rw [hW6];exact P3
     have OD6:Hid (OwnC W6 wr.heap.size w3.heap.size (.slice ea N'.length ec) (.slice fa M'.length fc) (.slice ga2 L2.length gc2) N' M' L2):=by rw [hW6];exact OD
     have hlN:N'.length=N.length:=by rw [←hlen2,←hN',List.length_map]
     have HK2:Hid (∀i (hi:i<N.length) (hi2:i<N'.length),N[i].n.co≤N'[i].n.co∧Has N'[i].n.log N[i].n.log N[i].n.co.toNat):=fun i hi hi2=>by
      have:=HKP.out i hi (by rw [hlen2];exact hi);subst hN';simpa using this
     clear P3 OD D bx hb4' hb5' HKP hN' hM' hlen2;go_wp2;rw [←hW6];clear hW6 yl y0 y1 y2;have hz6:=HB6.out.size;obtain⟨a5,c5,e5,HD⟩:=OD6.out.cr.n;injection e5 with e5 f5 g5;subst e5 g5;clear f5;have HEN:=OD6.out.cr.ne;have HCD:∀i (h:i<N'.length),N'[i].n.log.length≤N'[i].lc:=fun i h=>by obtain⟨_,_,q,_⟩:=OD6.out.cn.at i h;exact (xi_ q.l).1
     clear OD6
     go_loopw [131] (fun q wn=>∃i:Nat,i≤N'.length∧q= .int .i64 i∧Below W6.heap.size W6 wn) (fun q _=>N'.length-(intOf q).toNat)
     case atStart=>exact⟨0,Nat.zero_le _,rfl,Below.refl _ _⟩
     case round=>
      obtain⟨i,hi,rfl,hbn⟩:=hrel;have hzn:=hbn.size;by_cases hin:i<N'.length;rotate_left
      ·have hin2:¬(i:Int)<(N'.length:Int):=by omega
       have HG:=HBm.out.trans ((HB6.out.trans (hbn.mono hz6)).mono hzk);have HG2:Hid _:=HG;clear HE nE HF HFp HO HPF HP5 hbn HCO HCN HD HEN HCD HK2 P6 HFq HBm HG HB6;go_wp2;go_roundw
       case rel=>exact⟨k+1,by omega,by go_num,HG2.out⟩
       case measure=>simp [intOf];omega
      have hini:(i:Int)<(N'.length:Int):=by omega
      have hiN:i<N.length:=by omega
      have hiNi:(i:Int)<(N.length:Int):=by omega
      have HFn:Hid (Below Wp.heap.size Wp wr):=HFq.out.trans ((HB6.out.trans (hbn.mono hz6)).mono hzq);obtain⟨b,off,rfl,hbl,hcell⟩:=HD (by intro e;simp [e] at hin);obtain⟨z0,z1,z2,z3,z4,z5,z6,z7,z8⟩:=hcell i hin;have hd0:=(hbn.cell (p:=⟨b,off+i*9,none⟩) hbl).trans z0;have hd1:=(hbn.cell (p:=⟨b,off+i*9+1,none⟩) hbl).trans z1;have hd2:=(hbn.cell (p:=⟨b,off+i*9+2,none⟩) hbl).trans z2;have hd3:=(hbn.cell (p:=⟨b,off+i*9+3,none⟩) hbl).trans z3;have hd4:=(hbn.cell (p:=⟨b,off+i*9+4,none⟩) hbl).trans z4;have hd5:=(hbn.cell (p:=⟨b,off+i*9+5,none⟩) hbl).trans z5;have hd6:=(hbn.cell (p:=⟨b,off+i*9+6,none⟩) hbl).trans z6;have hd7:=(hbn.cell (p:=⟨b,off+i*9+7,none⟩) hbl).trans z7;have hd8:=(hbn.cell (p:=⟨b,off+i*9+8,none⟩) hbl).trans z8;obtain⟨hbNl,hcN⟩:=HCN.out i hiN;have hn5:=(HFn.out.cell (p:=⟨bN,oN+i*9+5,none⟩) hbNl).trans hcN.2;have hn4:=(HFn.out.cell (p:=⟨bN,oN+i*9+4,none⟩) hbNl).trans hcN.1;have hEN:=(HE i hiN).below HFn.out;have hED:=(HEN i hin).below hbn;have hcD:=HCD i hin;have hcA:=HCP i hiN;have hoA:=HCO i hiN;have hnA:=(nE i hiN).1;obtain⟨hk1,hk2⟩:=HK2.out i hiN hin;have P7:=P6.out.below hbn;clear z0 z1 z2 z3 z4 z5 z6 z7 z8 hcell hcN;generalize N'[i]=s at*;generalize N[i]=s' at*;obtain⟨⟨idD,peD,teD,voD,coD,roD,logD,vsD,mtD⟩,laD,lcD,vaD,vcD,maD,mcD⟩:=s;obtain⟨⟨idA,peA,teA,voA,coA,roA,logA,vsA,mtA⟩,laA,lcA,vaA,vcA,maA,mcA⟩:=s';dsimp only at hd0 hd1 hd2 hd3 hd4 hd5 hd6 hd7 hd8 hn5 hn4 hEN hED hcD hcA hoA hnA hk1 hk2;obtain⟨c,rfl⟩:=Int.eq_ofNat_of_zero_le hoA.1;obtain⟨cD,rfl⟩:=Int.eq_ofNat_of_zero_le (show 0≤coD from by omega);obtain⟨g1,g2,g3⟩:=hk2;simp only [Int.toNat_natCast] at g1 g2 g3;have BB:=zb_ wr (.cells #[idD,peD,teD,voD,.slice laD logD.length lcD,cD,roD,.slice vaD vsD.length vcD,.slice maD mtD.length mcD] 42);have Bx:=Box.new wr #[idD,peD,teD,voD,.slice laD logD.length lcD,cD,roD,.slice vaD vsD.length vcD,.slice maD mtD.length mcD] 42;have hbB:=za_ hbn BB;replace P7:=P7.below BB;replace hn5:=(BB.cell (p:=⟨bN,oN+i*9+5,none⟩) (by show bN<_;have:=HFn.out.size;omega)).trans hn5;replace hn4:=(BB.cell (p:=⟨bN,oN+i*9+4,none⟩) (by show bN<_;have:=HFn.out.size;omega)).trans hn4;have hED2:=hED.1.below BB;have hEN2:=hEN.1.below BB;have hzF:=HFn.out.size;obtain⟨WB,hWB⟩:∃W,W=wr.alloc (.cells #[idD,peD,teD,voD,.slice laD logD.length lcD,cD,roD,.slice vaD vsD.length vcD,.slice maD mtD.length mcD] 42):=⟨_,rfl⟩;have hzB:wr.heap.size+1=WB.heap.size:=by rw [hWB];simp
      rw [←hWB] at Bx P7 hn5 hn4 hED2 hEN2;have HBB:Hid (Below W6.heap.size W6 WB):=by rw [hWB];exact hbB
      clear BB hbB hED hEN;have gi1:(c:Int)≤(logD.length:Int):=by omega
      have gi2:(c:Int)≤(logA.length:Int):=by omega
      have gi4:(c:Int)≤(lcA:Int):=by omega
      have gi5:(c:Int)≤(lcD:Int):=by omega
      have gi6:(0:Int)≤(c:Int):=by omega
      have gi7:(0:Int)≤(i:Int):=by omega
      have hLn:(logD.take c).length=c:=by rw [List.length_take];omega
      have KF:Hid (∀(W:World) (h:Below WB.heap.size WB W),Calls Tryz.prog 13 #[.slice laD c lcD,.slice laA c lcA] W fun e w'=>e= .returned (.bool true)∧Below W.heap.size W w'):=fun W h=>yL_ (.slice laD c lcD) (.slice laA c lcA) (logD.take c) W (vC_ (hED2.below h) (by omega)) (by rw [g3];exact vC_ (hEN2.below h) (by omega)) (by rw [hLn];omega);have HK:Hid (∀W,Below WB.heap.size WB W→Below W6.heap.size W6 W):=fun W h=>HBB.out.trans (h.mono (by omega));clear HE nE HF HFp HO HPF HP5 HCO HCN HD HEN HCD HK2 P6 HFq HBm HB6 hED2 hEN2 HBB g3 hLn hbn HFn;go_wp2_with fail;rw [←hWB];clear hWB hd0 hd1 hd2 hd3 hd4 hd5 hd6 hd7 hd8;generalize wr.heap.size=gb at*;obtain⟨al,q0,q1,q2⟩:=P7.c3;obtain⟨bl,r0,r1,r2,r3,r4,r5,r6,r7,r8⟩:=Bx.e9;have hbN:bN<WB.heap.size:=by omega
      clear q1 q2 r0 r1 r2 r3 r6 r7 r8 P7 Bx;have gj:decide (cD<c)=false:=decide_eq_false (by omega)
      go_region_held3 (fun w'=>w'.cell? ⟨w1.heap.size,0,none⟩=some (.slice (some ⟨bN,oN,none⟩) N.length nc)∧w'.cell? ⟨gb,4,none⟩=some (.slice laD logD.length lcD)∧w'.cell? ⟨gb,5,none⟩=some (.int .i64 cD)∧w'.cell? ⟨bN,oN+i*9+5,none⟩=some (.int .i64 c)∧w'.cell? ⟨bN,oN+i*9+4,none⟩=some (.slice laA logA.length lcA)) (go_keep)
       (first | (go_at_call 13;refine (KF.out _ (Below.refl _ _).drew).mono ?_;rintro e wc ⟨rfl,hb1'⟩;have hb1:=xM_ hb1';replace q0:=(hb1.cell (p:=⟨w1.heap.size,0,none⟩) al).trans q0;replace r4:=(hb1.cell (p:=⟨gb,4,none⟩) bl).trans r4;replace r5:=(hb1.cell (p:=⟨gb,5,none⟩) bl).trans r5;replace hn5:=(hb1.cell (p:=⟨bN,oN+i*9+5,none⟩) hbN).trans hn5;replace hn4:=(hb1.cell (p:=⟨bN,oN+i*9+4,none⟩) hbN).trans hn4))
      go_wp2;go_roundw
      case rel=>exact⟨i+1,by omega,by go_num,HK.out _ hb1⟩
      case measure=>simp [intOf];omega
   obtain⟨b,off,rfl,hbl,hcell⟩:=HC (by intro e;simp [e] at hlt);have hil:(i:Int)<(N.length:Int):=by omega
   have hbp0:=HBp.out.trans (hb.mono (show Wp.heap.size≤W2.heap.size from hz3));obtain⟨z0,z1,z2,z3,z4,z5,z6,z7,z8⟩:=hcell i hlt;have hc0:=(hbp0.cell (p:=⟨b,off+i*9,none⟩) hbl).trans z0;have hc1:=(hbp0.cell (p:=⟨b,off+i*9+1,none⟩) hbl).trans z1;have hc2:=(hbp0.cell (p:=⟨b,off+i*9+2,none⟩) hbl).trans z2;have hc3:=(hbp0.cell (p:=⟨b,off+i*9+3,none⟩) hbl).trans z3;have hc4:=(hbp0.cell (p:=⟨b,off+i*9+4,none⟩) hbl).trans z4;have hc5:=(hbp0.cell (p:=⟨b,off+i*9+5,none⟩) hbl).trans z5;have hc6:=(hbp0.cell (p:=⟨b,off+i*9+6,none⟩) hbl).trans z6;have hc7:=(hbp0.cell (p:=⟨b,off+i*9+7,none⟩) hbl).trans z7;have hc8:=(hbp0.cell (p:=⟨b,off+i*9+8,none⟩) hbl).trans z8;have hE:=(HE i hlt).below hbp0;have hnA:=(nE i hlt).1;have hcA:=HCP i hlt;have hoA:=HCO i hlt;have HSi0:Hid (∀j (hj:j<N.length) (c:Nat),(c:Int)≤N[i].n.co→(c:Int)≤N[j].n.co→Has N[i].n.log N[j].n.log c):=fun j hj c h1 h2=>HSF.out i j hlt hj c h1 h2;have HNI0:Hid (∃x,N[i].n.co=x):=⟨_,rfl⟩;obtain⟨sN,hsN⟩:∃s,N[i]=s:=⟨_,rfl⟩;clear z0 z1 z2 z3 z4 z5 z6 z7 z8 HNI0;rw [hsN] at hc0 hc1 hc2 hc3 hc4 hc5 hc6 hc7 hc8 hE hnA hcA hoA;have HSi1:Hid (∀j (hj:j<N.length) (c:Nat),(c:Int)≤sN.n.co→(c:Int)≤N[j].n.co→Has sN.n.log N[j].n.log c):=by rw [←hsN];exact HSi0
   obtain⟨⟨idA,peA,teA,voA,coA,roA,logA,vsA,mtA⟩,laA,lcA,vaA,vcA,maA,mcA⟩:=sN;dsimp only at hc0 hc1 hc2 hc3 hc4 hc5 hc6 hc7 hc8 hE hnA hcA hoA HSi1;obtain⟨cA,rfl⟩:=Int.eq_ofNat_of_zero_le hoA.1;have HNI:Hid (N[i].n.co=(cA:Int)):=by show N[i].n.co=_;rw [hsN]
   have HSi:Hid (∀j (hj:j<N.length) (c:Nat),(c:Int)≤(cA:Int)→(c:Int)≤N[j].n.co→Has logA N[j].n.log c):=HSi1;clear HSi0 HSi1 hsN;have X0:=(hb.cell (p:=⟨w1.heap.size,0,none⟩) xl).trans x0;have BA:=zb_ wr (.cells #[idA,peA,teA,voA,.slice laA logA.length lcA,cA,roA,.slice vaA vsA.length vcA,.slice maA mtA.length mcA] 42);have A:=Box.new wr #[idA,peA,teA,voA,.slice laA logA.length lcA,cA,roA,.slice vaA vsA.length vcA,.slice maA mtA.length mcA] 42;have hbA:=za_ hb BA;replace X0:=(BA.cell (p:=⟨w1.heap.size,0,none⟩) (by show w1.heap.size<_;omega)).trans X0;replace hE:=hE.below BA;have HSn:=fun W=>sl_to26 (some ⟨b,off,none⟩) N.length nc i W (by omega);obtain⟨ql,q0,q1,q2,q3,q4,q5,q6,q7,q8⟩:=A.e9;obtain⟨WA,hWA⟩:∃W,W=wr.alloc (.cells #[idA,peA,teA,voA,.slice laA logA.length lcA,cA,roA,.slice vaA vsA.length vcA,.slice maA mtA.length mcA] 42):=⟨_,rfl⟩;have hzA:wr.heap.size+1=WA.heap.size:=by rw [hWA];simp
   rw [←hWA] at A hbA hE;clear BA;have HN12:Hid (∃m2:Nat,m2≤60∧(m2=if cA<m then cA else m)∧(∀j (h:j<N.length),j<i+1→(m2:Int)≤N[j].n.co)∧(m2=60∨∃j,∃h:j<N.length,N[j].n.co=(m2:Int))):=by
    by_cases hlm:cA<m
    ·exact⟨cA,by omega,by rw [if_pos hlm],fun q h hq=>by
      by_cases e:q=i
      ·subst e;rw [HNI.out];exact Int.le_refl _
      ·have:=HLE.out q h (by omega);omega,.inr ⟨i,hlt,HNI.out⟩⟩
    ·exact⟨m,hm60,by rw [if_neg hlm],fun q h hq=>by
      by_cases e:q=i
      ·subst e;rw [HNI.out];omega
      ·exact HLE.out q h (by omega),HEX.out⟩
   obtain⟨m2,hm2,hme,HL20,HX20⟩:=HN12.out;have HL2:Hid (∀j (h:j<N.length),j<i+1→(m2:Int)≤N[j].n.co):=HL20;have HX2:Hid (m2=60∨∃j,∃h:j<N.length,N[j].n.co=(m2:Int)):=HX20;have HME:Hid (m2=if cA<m then cA else m):=hme;clear HN12 HL20 HX20 HLE HEX HNI hme;go_upto_if 61 with fail;rw [←hWA] at ql q0 q1 q2 q3 q4 q5 q6 q7 q8 X0 ⊢;clear hWA hc0 hc1 hc2 hc3 hc4 hc5 hc6 hc7 hc8
   go_cut [10] from 58 to 64 (fun t wq=>t= .int .i64 m2∧wq=WA)
   case first=>
    clear HC HE nE HB HBp HP x0 x1 x2 HSi A hE hcell hbA hbp0 HSF HCM HPF HO HCO HL2 HX2 HSn X0;by_cases hlm:cA<m
    ·have hlmi:(cA:Int)<(m:Int):=by omega
     have e:m2=cA:=by rw [HME.out,if_pos hlm]
     subst e;clear HME;go_wp2;go_meet
     case rel=>exact⟨rfl,rfl⟩
    ·have hlmi:¬(cA:Int)<(m:Int):=by omega
     have e:m2=m:=by rw [HME.out,if_neg hlm]
     subst e;clear HME;go_wp2;go_meet
     case rel=>exact⟨rfl,rfl⟩
   case rest=>
    obtain⟨rfl,hwc⟩:=hcut;replace hwc:=hwc.symm;subst hwc;clear HME;go_wp2_with (first | (refine zN_ _ rfl 26 _ _ _ _ rfl _ (HSn _) ?_;simp only [Act.put,sA_,sB_,sC_]));clear HSn X0 ql q0 q1 q2 q3 q4 q5 q6 q7 q8;generalize wr.heap.size=ga at*
    go_loopw [69] (fun q wm=>∃j:Nat,j≤i∧q= .int .i64 j∧Below WA.heap.size WA wm) (fun q _=>i-(intOf q).toNat)
    case atStart=>exact⟨0,Nat.zero_le _,rfl,Below.refl _ _⟩
    case round=>
     obtain⟨j,hj,rfl,hbm⟩:=hrel;by_cases hlj:j<i;rotate_left
     ·have hji:¬(j:Int)<(i:Int):=by omega
      have HF:Hid (Below W2.heap.size W2 wr):=hbA.trans (hbm.mono hbA.size);clear HC HE nE HB HBp HP x0 x1 x2 HSi A hE hcell hbA hbm hbp0 HSF HCM HPF HO HCO;go_wp2;go_roundw
      case rel=>exact⟨i+1,m2,by omega,by omega,by go_num,rfl,HL2.out,HX2.out,HF.out⟩
      case measure=>simp [intOf];omega
     have hjl:(j:Int)<(i:Int):=by omega
     have hjN:j<N.length:=by omega
     obtain⟨z0,z1,z2,z3,z4,z5,z6,z7,z8⟩:=hcell j hjN;have hbq:=hbA.trans (hbm.mono hbA.size);have hbp:=HBp.out.trans (hbq.mono hz3);have hd0:=(hbp.cell (p:=⟨b,off+j*9,none⟩) hbl).trans z0;have hd1:=(hbp.cell (p:=⟨b,off+j*9+1,none⟩) hbl).trans z1;have hd2:=(hbp.cell (p:=⟨b,off+j*9+2,none⟩) hbl).trans z2;have hd3:=(hbp.cell (p:=⟨b,off+j*9+3,none⟩) hbl).trans z3;have hd4:=(hbp.cell (p:=⟨b,off+j*9+4,none⟩) hbl).trans z4;have hd5:=(hbp.cell (p:=⟨b,off+j*9+5,none⟩) hbl).trans z5;have hd6:=(hbp.cell (p:=⟨b,off+j*9+6,none⟩) hbl).trans z6;have hd7:=(hbp.cell (p:=⟨b,off+j*9+7,none⟩) hbl).trans z7;have hd8:=(hbp.cell (p:=⟨b,off+j*9+8,none⟩) hbl).trans z8;have hG:=(HE j hjN).below hbp;have hnB:=(nE j hjN).1;have hcB:=HCP j hjN;have hoB:=HCO j hjN;have HSj:Hid (∀c:Nat,(c:Int)≤(cA:Int)→(c:Int)≤N[j].n.co→Has logA N[j].n.log c):=fun c h1 h2=>HSi.out j hjN c h1 h2;clear z0 z1 z2 z3 z4 z5 z6 z7 z8;generalize N[j]=s at*;obtain⟨⟨idB,peB,teB,voB,coB,roB,logB,vsB,mtB⟩,laB,lcB,vaB,vcB,maB,mcB⟩:=s;dsimp only at hd0 hd1 hd2 hd3 hd4 hd5 hd6 hd7 hd8 hG hnB hcB hoB HSj;obtain⟨cB,rfl⟩:=Int.eq_ofNat_of_zero_le hoB.1;have hzm:=hbm.size;have BB:=zb_ wr (.cells #[idB,peB,teB,voB,.slice laB logB.length lcB,cB,roB,.slice vaB vsB.length vcB,.slice maB mtB.length mcB] 42);have Bx:=Box.new wr #[idB,peB,teB,voB,.slice laB logB.length lcB,cB,roB,.slice vaB vsB.length vcB,.slice maB mtB.length mcB] 42;have hbB:=za_ hbm BB;have Ax:=(A.below hbm).below BB;have hEA:=(hE.1.below hbm).below BB;have hEB:=hG.1.below BB;obtain⟨WB,hWB⟩:∃W,W=wr.alloc (.cells #[idB,peB,teB,voB,.slice laB logB.length lcB,cB,roB,.slice vaB vsB.length vcB,.slice maB mtB.length mcB] 42):=⟨_,rfl⟩;have HBB:Hid (Below WA.heap.size WA WB):=by rw [hWB];exact hbB
     have hzB:wr.heap.size+1=WB.heap.size:=by rw [hWB];simp
     rw [←hWB] at Ax Bx hEA hEB;clear BB hbB hG hbq hbp hbp0 hbm;have HK:Hid (∀W,Below WB.heap.size WB W→Below WA.heap.size WA W):=fun W h=>HBB.out.trans (h.mono (by omega));obtain⟨c,hce⟩:∃c,c=if cB<cA then cB else cA:=⟨_,rfl⟩;have hcl:c≤cA∧c≤cB:=by rw [hce];split <;>omega
     obtain⟨g1,g2,g3⟩:=HSj.out c (by omega) (by omega);have HCE:Hid (c=if cB<cA then cB else cA):=hce;clear HSj hce;have gi2:(c:Int)≤(logA.length:Int):=by omega
     have gi1:(c:Int)≤(logB.length:Int):=by omega
     have gi4:(c:Int)≤(lcA:Int):=by omega
     have gi5:(c:Int)≤(lcB:Int):=by omega
     have gi6:(0:Int)≤(c:Int):=by omega
     have hLn:(logA.take c).length=c:=by rw [List.length_take];omega
     have KF:Hid (∀(W:World) (h:Below WB.heap.size WB W),Calls Tryz.prog 13 #[.slice laA c lcA,.slice laB c lcB] W fun e w'=>e= .returned (.bool true)∧Below W.heap.size W w'):=fun W h=>yL_ (.slice laA c lcA) (.slice laB c lcB) (logA.take c) W (vC_ (hEA.below h) (by omega)) (by rw [g3];exact vC_ (hEB.below h) (by omega)) (by rw [hLn];omega);clear g3 hLn hEA hEB HSi;obtain⟨al,q0,q1,q2,q3,q4,q5,q6,q7,q8⟩:=Ax.e9;obtain⟨bl,r0,r1,r2,r3,r4,r5,r6,r7,r8⟩:=Bx.e9;rw [hWB] at al bl q0 q1 q2 q3 q4 q5 q6 q7 q8 r0 r1 r2 r3 r4 r5 r6 r7 r8;have HKF:=KF;clear KF;go_upto_if 78 with fail;rw [←hWB] at al bl q0 q1 q2 q3 q4 q5 q6 q7 q8 r0 r1 r2 r3 r4 r5 r6 r7 r8 ⊢;clear hWB
     go_cut [15] from 75 to 81 (fun t wq=>t= .int .i64 c∧wq=WB)
     case first=>
      clear hd0 hd1 hd2 hd3 hd4 hd5 hd6 hd7 hd8 HC HE nE HSF HB HBp HP x0 x1 x2 A hE hcell hbA hb HBB xl HCM HPF HO HCO HL2 HX2 HKF HK Ax Bx;by_cases hcc:cB<cA
      ·have hlmi:(cB:Int)<(cA:Int):=by omega
       have e:c=cB:=by rw [HCE.out,if_pos hcc]
       subst e;clear HCE;go_wp2;go_meet
       case rel=>exact⟨rfl,rfl⟩
      ·have hlmi:¬(cB:Int)<(cA:Int):=by omega
       have e:c=cA:=by rw [HCE.out,if_neg hcc]
       subst e;clear HCE;go_wp2;go_meet
       case rel=>exact⟨rfl,rfl⟩
     case rest=>
     obtain⟨rfl,hwc⟩:=hcut;replace hwc:=hwc.symm;subst hwc;have KF:=HKF;clear HKF HCE;go_wp2_with fail;clear hd0 hd1 hd2 hd3 hd4 hd5 hd6 hd7 hd8 HC HE nE HSF HB HBp HP x0 x1 x2 A hE hcell hbA hb HBB xl HCM HPF HO HCO HL2 HX2 q0 q1 q2 q3 q5 q6 q7 q8 r0 r1 r2 r3 r5 r6 r7 r8 Ax Bx;generalize wr.heap.size=gb at*
     go_region_held3 (fun w'=>w'.cell? ⟨ga,4,none⟩=some (.slice laA logA.length lcA)∧w'.cell? ⟨gb,4,none⟩=some (.slice laB logB.length lcB)) (go_keep)
      (first | (go_at_call 13;refine (KF.out _ (Below.refl _ _).drew).mono ?_;rintro e wc ⟨rfl,hb1'⟩;have hb1:=xM_ hb1';replace q4:=(hb1.cell (p:=⟨ga,4,none⟩) al).trans q4;replace r4:=(hb1.cell (p:=⟨gb,4,none⟩) bl).trans r4))
     go_wp2;go_roundw
     case rel=>exact⟨j+1,by omega,by go_num,HK.out _ hb1⟩
     case measure=>simp [intOf];omega
end Go.Proofs.YtapfhhmimkkhnaaGreat
namespace Go.Proofs.YtapfhhmimkkhnaaGreat
open Go.RowKit Go.ChangeShapes Go.WideShapes Go.ChangeAt
set_option maxRecDepth 100000
theorem YL_of_trod {H:Type} {enc:TypeId×Value→H} {P:Program} {w:World} {base:Nat} {spare:Nat→Bool} {held:Bool} {t e:TypeId} {fuel:Nat} {v:Value} {x:DataW H×List MemPlace}
  (ht:P.underlying t=some (.slice e)) (he:P.underlying e=some (.int .u8)) (ce:P.cellsOf e=1)
  (h:DataW.trod enc P w base spare held fuel t [v]=some x):
  ∃l:List UInt8,YL w v l∧l.length≤maxLen:=by
 rcases open_ints ht he ce h with⟨hv,_⟩ | ⟨a,len,cap,zs,hv,hb,hl,hm,hz,hx,hcell,hws⟩
 ·simp only [List.cons.injEq,and_true] at hv;subst hv;exact⟨[],⟨none,0,rfl,fun h=>absurd rfl h⟩,by simp⟩
 ·simp only [List.cons.injEq,and_true] at hv;subst hv;have hls:len≤zs.length:=by rw [hz];split <;>omega
  have hlen:((zs.take len).map fun z=>UInt8.ofNat z.toNat).length=len:=by simp;omega
  refine⟨(zs.take len).map fun z=>UInt8.ofNat z.toNat,⟨some a,cap,by rw [hlen],fun hne=> ?_⟩,by rw [hlen];omega⟩;have hpos:0<len:=by
   rcases Nat.eq_zero_or_pos len with h0 | h0
   ·subst h0;simp at hne
   ·exact h0
  have hc0:=hcell 0 (by omega);have hsp:a.spot=none:=by
   have:=World.cell?_spot hc0;simpa [Addr.add] using this
  obtain⟨b,off,spot⟩:=a;simp only at hsp;subst hsp;have hbl:=World.block_lt_of_cell? _ _ hc0;refine⟨b,off,rfl,by simpa [Addr.add] using hbl,fun i hi=> ?_⟩;have hi':i<len:=by omega
  have hk:=hcell i (by omega);have hwf:=hws (zs.getD i 0) (by rw [List.getD_eq_getElem?_getD,List.getElem?_eq_getElem (by omega),Option.getD_some];exact List.getElem_mem _);have hr:0≤zs.getD i 0∧zs.getD i 0≤255:=by
   simp only [Lit.wf,Bool.and_eq_true,decide_eq_true_eq] at hwf;exact⟨hwf.1,hwf.2⟩
  have hg:(((zs.take len).map fun z=>UInt8.ofNat z.toNat)[i].toNat:Int)=zs.getD i 0:=by
   rw [List.getElem_map,List.getElem_take,UInt8.toNat_ofNat'];have e:zs[i]'(by omega)=zs.getD i 0:=by rw [List.getD_eq_getElem?_getD,List.getElem?_eq_getElem (by omega),Option.getD_some]
   rw [e];omega
  rw [hg,←hk];congr 1;by_cases h0:i=0
  ·subst h0;simp [Addr.add]
  ·simp [Addr.add,h0]
end Go.Proofs.YtapfhhmimkkhnaaGreat
