/-
  The walk of FnComplete.
  From the reading of an argument to the lists that the contracts speak of: a slice of bytes that came in.
-/
import Derived.Test.YtapfhhmimkkhnaaGreatTAToLMT
import Derived.Test.YtapfhhmimkkhnaaGreatCH
import Derived.Test.YtapfhhmimkkhnaaGreatCMDToSE
import Derived.Test.YtapfhhmimkkhnaaGreatPYToDC
import Derived.ChangeSlices
namespace Go.Proofs.YtapfhhmimkkhnaaGreat
open Go.RowKit Go.Maps
set_option linter.unusedVariables false
set_option maxRecDepth 100000
set_option maxHeartbeats 16000000
theorem hiT_le (N:List Nd):∀k j,j<k→(N.getD j Nd.zero).te≤hiT N k:=by
 intro k
 induction k with
 | zero=>intro j h;omega
 | succ k ih=>
  intro j h;by_cases hj:j=k
  ·subst hj;unfold hiT
   split <;>omega
  ·have:=ih j (by omega);unfold hiT
   split <;>omega
theorem law6 (v:Value) (l:List UInt8) (w:World) (hv:YL w v l) (hl:l.length≤9223372036854775807):
  Calls Tryz.prog 6 #[v] w fun e w'=>e= .returned (.bool true)∧Below w.heap.size w w':=by
 have DR:=drawPC_any v l w hv hl;obtain⟨a,cap,rfl,_⟩:=hv;go_enter Tryz.func6,Tryz.ntmps6;by_cases hsz:(1048576:Int)<(l.length:Int)
 ·clear DR;go_wp2;go_ret;exact⟨rfl,Below.refl _ _⟩
 go_wp2_with fail;refine DR.mono ?_;rintro e w0 ⟨⟨pe,sv,L,rfl,oL,hlen,hd⟩,hB⟩;have hz0:=hB.size;clear DR;have PY:=played_any pe sv L w0 _ oL (by omega) (drawn_short hd);obtain⟨sa,sc,rfl⟩:=ze_ oL;have RB:=fun {N:List Nv} {M:List Mv} =>plR_bnd pe L (N:=N) (M:=M);have RF:plOk pe L=true→1≤pe∧pe≤7∧PF pe.toNat (plR (plOk pe L) pe.toNat L):=fun h=>by have:=plR_pf h;rw [h];exact this
 generalize plR (plOk pe L) pe.toNat L=R at*;generalize plOk pe L=ok at*;obtain⟨Rn,Rm,Rl⟩:=R;dsimp only at RB RF;clear hd oL;go_wp2_with fail;refine PY.mono ?_;rintro e w1 ⟨⟨un,um,ul,N,M,rfl,O,hN,hM⟩,hb⟩;dsimp only at O hN hM;have hCS:=(RB hN hM).1;replace hB:=za_ hB hb;have hz1:=hb.size;clear hb PY RB;obtain⟨⟨na,nc,h1⟩,⟨ma,mc,h2⟩,la,lc,h3⟩:=O.shapes;subst h1 h2 h3;obtain⟨Wp,hWp⟩:∃W,W=w1.alloc (.cells #[.slice na N.length nc,.slice ma M.length mc,.slice la Rl.length lc] 30):=⟨_,rfl⟩;have bx:=zb_ w1 (.cells #[.slice na N.length nc,.slice ma M.length mc,.slice la Rl.length lc] 30);have P:=Box.new w1 #[.slice na N.length nc,.slice ma M.length mc,.slice la Rl.length lc] 30;rw [←hWp] at bx P;replace O:=O.below bx;replace hB:=za_ hB bx;have hz2:=bx.size;clear bx
 cases ok with
 | false=>
  clear RF O P hN hM hCS;go_wp2;go_ret;exact⟨rfl,by rw [←hWp];exact hB⟩
 | true=>
  obtain⟨p1,p7,PFh⟩:=RF rfl;have G:goodC (N.map Nv.n) (M.map Mv.q) Rl=true:=by rw [hN,hM];exact PFh.g.good
  have K:=implHi_any _ _ _ N M Rl Wp O.cr hCS;rw [G] at K;simp only [hiR,if_true] at K;have hT:∀j (h:j<N.length),N[j].n.te≤hiT (N.map Nv.n) (N.map Nv.n).length:=fun j h=>by
   have:=hiT_le (N.map Nv.n) (N.map Nv.n).length j (by simpa using h);rw [hiT_at N j h] at this;exact this
  generalize hiT (N.map Nv.n) (N.map Nv.n).length=T at*;have GC:=(goodC_co G).2.2;have FC:=fun i j hi hj ri ht=>PFh.f.complete i j hi hj ri ht;rw [←hN] at FC;have HN:Hid (∀i j (hi:i<N.length) (hj:j<N.length),N[i].n.ro=2→N[i].n.te=T→∃c:Nat,N[j].n.co=(c:Int)∧Has N[j].n.log N[i].n.log c):=fun i j hi hj r e=>by
   have h:=FC i j (by simpa using hi) (by simpa using hj) (by simpa using r) (by simp only [List.getElem_map];rw [e];exact hT j hj);simp only [List.getElem_map] at h;exact⟨N[j].n.co.toNat,by have:=(GC j hj).1;omega,h⟩
  have HCP:∀i (h:i<N.length),N[i].n.log.length≤N[i].lc:=fun i h=>by obtain⟨_,_,q,_⟩:=O.cn.at i h;exact (owns_cap q.l).1
  obtain⟨a1,c1,e1,HC⟩:=O.cr.n;injection e1 with e1 f1 g1;subst e1 g1;clear f1;have HE:=O.cr.ne;have nN:=hCS.n;have nE:=hCS.ne;clear FC GC G hT PFh RF hN hM hCS O;obtain⟨xl,x0,x1,x2⟩:=P.c3;go_wp2_with fail;rw [←hWp];clear hWp;refine K.mono ?_;rintro e W2 ⟨rfl,hb⟩;replace P:=P.below hb;replace hB:=za_ hB hb;have hz3:=hb.size;clear K xl x0 x1 x2;obtain⟨xl,x0,x1,x2⟩:=P.c3;clear P;have HB:Hid (Below w.heap.size w W2):=hB;have HBp:Hid (Below Wp.heap.size Wp W2):=hb;clear hB hb;go_wp2_with fail
  go_loopw [46] (fun i wr=>∃k:Nat,k≤N.length∧i= .int .i64 k∧Below W2.heap.size W2 wr) (fun i _=>N.length-(intOf i).toNat)
  case atStart=>exact⟨0,Nat.zero_le _,rfl,Below.refl _ _⟩
  case round=>
   obtain⟨i,hi,rfl,hb⟩:=hrel;by_cases hlt:i<N.length;rotate_left
   ·have HF:Hid (Below w.heap.size w wr):=HB.out.trans (hb.mono (by omega));clear HC HE nE HN HB HBp x0 x1 x2;go_wp2;go_ret;exact⟨rfl,HF.out⟩
   obtain⟨b,off,rfl,hbl,hcell⟩:=HC (by intro e;simp [e] at hlt);have hil:(i:Int)<(N.length:Int):=by omega
   have hbp0:=HBp.out.trans (hb.mono (show Wp.heap.size≤W2.heap.size from hz3));obtain⟨z0,z1,z2,z3,z4,z5,z6,z7,z8⟩:=hcell i hlt;have hc0:=(hbp0.cell (p:=⟨b,off+i*9,none⟩) hbl).trans z0;have hc1:=(hbp0.cell (p:=⟨b,off+i*9+1,none⟩) hbl).trans z1;have hc2:=(hbp0.cell (p:=⟨b,off+i*9+2,none⟩) hbl).trans z2;have hc3:=(hbp0.cell (p:=⟨b,off+i*9+3,none⟩) hbl).trans z3;have hc4:=(hbp0.cell (p:=⟨b,off+i*9+4,none⟩) hbl).trans z4;have hc5:=(hbp0.cell (p:=⟨b,off+i*9+5,none⟩) hbl).trans z5;have hc6:=(hbp0.cell (p:=⟨b,off+i*9+6,none⟩) hbl).trans z6;have hc7:=(hbp0.cell (p:=⟨b,off+i*9+7,none⟩) hbl).trans z7;have hc8:=(hbp0.cell (p:=⟨b,off+i*9+8,none⟩) hbl).trans z8;have hE:=(HE i hlt).below hbp0;have hnA:=(nE i hlt).1;have hcA:=HCP i hlt;have HNi:Hid (∀j (hj:j<N.length),N[i].n.ro=2→N[i].n.te=T→∃c:Nat,N[j].n.co=(c:Int)∧Has N[j].n.log N[i].n.log c):=fun j hj=>HN.out i j hlt hj;clear z0 z1 z2 z3 z4 z5 z6 z7 z8;generalize N[i]=s at*;obtain⟨⟨idA,peA,teA,voA,coA,roA,logA,vsA,mtA⟩,laA,lcA,vaA,vcA,maA,mcA⟩:=s;dsimp only at hc0 hc1 hc2 hc3 hc4 hc5 hc6 hc7 hc8 hE hnA hcA HNi;have X0:=(hb.cell (p:=⟨w1.heap.size,0,none⟩) xl).trans x0;have hz:=hb.size;have BA:=zb_ wr (.cells #[idA,peA,teA,voA,.slice laA logA.length lcA,coA,roA,.slice vaA vsA.length vcA,.slice maA mtA.length mcA] 42);have A:=Box.new wr #[idA,peA,teA,voA,.slice laA logA.length lcA,coA,roA,.slice vaA vsA.length vcA,.slice maA mtA.length mcA] 42;have hbA:=za_ hb BA;replace X0:=(BA.cell (p:=⟨w1.heap.size,0,none⟩) (by show w1.heap.size<_;omega)).trans X0;replace hE:=hE.below BA;obtain⟨ql,q0,q1,q2,q3,q4,q5,q6,q7,q8⟩:=A.e9;obtain⟨WA,hWA⟩:∃W,W=wr.alloc (.cells #[idA,peA,teA,voA,.slice laA logA.length lcA,coA,roA,.slice vaA vsA.length vcA,.slice maA mtA.length mcA] 42):=⟨_,rfl⟩;have hzA:wr.heap.size+1=WA.heap.size:=by rw [hWA];simp
   have hbA':Hid (Below W2.heap.size W2 WA):=by rw [hWA];exact hbA
   have A':Hid (Box WA wr.heap.size [idA,peA,teA,voA,.slice laA logA.length lcA,coA,roA,.slice vaA vsA.length vcA,.slice maA mtA.length mcA]):=by rw [hWA];exact A
   have hE':Hid (NE WA ⟨⟨idA,peA,teA,voA,coA,roA,logA,vsA,mtA⟩,laA,lcA,vaA,vcA,maA,mcA⟩):=by rw [hWA];exact hE
   clear BA A hbA hE;by_cases hro:roA=2;rotate_left
   ·have HF:Hid (Below W2.heap.size W2 WA):=hbA';clear HC HE nE HN HB HBp x0 x1 x2 HNi A' hE' hbA' X0;go_wp2
    try rw [←hWA]
    go_roundw
    case rel=>exact⟨i+1,by omega,by go_num,HF.out⟩
    case measure=>simp [intOf];omega
   subst hro;by_cases hte:teA=T;rotate_left
   ·have HF:Hid (Below W2.heap.size W2 WA):=hbA';clear HC HE nE HN HB HBp x0 x1 x2 HNi A' hE' hbA' X0;go_wp2
    try rw [←hWA]
    go_roundw
    case rel=>exact⟨i+1,by omega,by go_num,HF.out⟩
    case measure=>simp [intOf];omega
   subst hte;go_wp2;rw [←hWA];clear hWA hc0 hc1 hc2 hc3 hc4 hc5 hc6 hc7 hc8 X0 ql q0 q1 q2 q3 q4 q5 q6 q7 q8;generalize wr.heap.size=ga at*;have hbA:=hbA'.out;have A:=A'.out;have hE:=hE'.out;clear hbA' A' hE'
   go_loopw [62] (fun q wm=>∃j:Nat,j≤N.length∧q= .int .i64 j∧Below WA.heap.size WA wm) (fun q _=>N.length-(intOf q).toNat)
   case atStart=>exact⟨0,Nat.zero_le _,rfl,Below.refl _ _⟩
   case round=>
    obtain⟨j,hj,rfl,hbm⟩:=hrel;by_cases hlj:j<N.length;rotate_left
    ·have HF:Hid (Below W2.heap.size W2 wr):=hbA.trans (hbm.mono hbA.size);clear HC HE nE HN HB HBp x0 x1 x2 HNi A hE hcell hbA hbm hbp0;go_wp2;go_roundw
     case rel=>exact⟨i+1,by omega,by go_num,HF.out⟩
     case measure=>simp [intOf];omega
    have hjl:(j:Int)<(N.length:Int):=by omega
    obtain⟨z0,z1,z2,z3,z4,z5,z6,z7,z8⟩:=hcell j hlj;have hbq:=hbA.trans (hbm.mono hbA.size);have hbp:=HBp.out.trans (hbq.mono hz3);have hd0:=(hbp.cell (p:=⟨b,off+j*9,none⟩) hbl).trans z0;have hd1:=(hbp.cell (p:=⟨b,off+j*9+1,none⟩) hbl).trans z1;have hd2:=(hbp.cell (p:=⟨b,off+j*9+2,none⟩) hbl).trans z2;have hd3:=(hbp.cell (p:=⟨b,off+j*9+3,none⟩) hbl).trans z3;have hd4:=(hbp.cell (p:=⟨b,off+j*9+4,none⟩) hbl).trans z4;have hd5:=(hbp.cell (p:=⟨b,off+j*9+5,none⟩) hbl).trans z5;have hd6:=(hbp.cell (p:=⟨b,off+j*9+6,none⟩) hbl).trans z6;have hd7:=(hbp.cell (p:=⟨b,off+j*9+7,none⟩) hbl).trans z7;have hd8:=(hbp.cell (p:=⟨b,off+j*9+8,none⟩) hbl).trans z8;have hG:=(HE j hlj).below hbp;have hnB:=(nE j hlj).1;have hcB:=HCP j hlj;obtain⟨c,hcc,hHas⟩:=HNi.out j hlj (by trivial) (by trivial);clear z0 z1 z2 z3 z4 z5 z6 z7 z8;generalize N[j]=s at*;obtain⟨⟨idB,peB,teB,voB,coB,roB,logB,vsB,mtB⟩,laB,lcB,vaB,vcB,maB,mcB⟩:=s;dsimp only at hd0 hd1 hd2 hd3 hd4 hd5 hd6 hd7 hd8 hG hnB hcB hcc hHas;subst hcc;obtain⟨g1,g2,g3⟩:=hHas;have hzm:=hbm.size;have BB:=zb_ wr (.cells #[idB,peB,teB,voB,.slice laB logB.length lcB,c,roB,.slice vaB vsB.length vcB,.slice maB mtB.length mcB] 42);have Bx:=Box.new wr #[idB,peB,teB,voB,.slice laB logB.length lcB,c,roB,.slice vaB vsB.length vcB,.slice maB mtB.length mcB] 42;have hbB:=za_ hbm BB;have Ax:=(A.below hbm).below BB;have hEA:=(hE.1.below hbm).below BB;have hEB:=hG.1.below BB;obtain⟨WB,hWB⟩:∃W,W=wr.alloc (.cells #[idB,peB,teB,voB,.slice laB logB.length lcB,c,roB,.slice vaB vsB.length vcB,.slice maB mtB.length mcB] 42):=⟨_,rfl⟩;have HBB:Hid (Below WA.heap.size WA WB):=by rw [hWB];exact hbB
    have hzB:wr.heap.size+1=WB.heap.size:=by rw [hWB];simp
    rw [←hWB] at Ax Bx hEA hEB;clear BB hbB hG hbq hbp hbp0 hbm;have gi1:(c:Int)≤(logB.length:Int):=by omega
    have gi2:(c:Int)≤(logA.length:Int):=by omega
    have gi3:decide ((logA.length:Int)<(c:Int))=false:=decide_eq_false (by omega);have gi4:(c:Int)≤(lcA:Int):=by omega
    have gi5:(c:Int)≤(lcB:Int):=by omega
    have gi6:(0:Int)≤(c:Int):=by omega
    have gi7:¬(logA.length:Int)<(c:Int):=by omega
    have hLn:(logA.take c).length=c:=by rw [List.length_take];omega
    have KF:Hid (∀(W:World) (h:Below WB.heap.size WB W),Calls Tryz.prog 13 #[.slice laB c lcB,.slice laA c lcA] W fun e w'=>e= .returned (.bool true)∧Below W.heap.size W w'):=fun W h=>sameEntries_same (.slice laB c lcB) (.slice laA c lcA) (logA.take c) W (by rw [←g3];exact ER_to (hEB.below h) (by omega)) (ER_to (hEA.below h) (by omega)) (by rw [hLn];omega);have HK:Hid (∀W,Below WB.heap.size WB W→Below WA.heap.size WA W):=fun W h=>HBB.out.trans (h.mono (by omega));go_wp2_with fail;rw [←hWB];clear hWB hd0 hd1 hd2 hd3 hd4 hd5 hd6 hd7 hd8 HC HE nE HN HB HBp x0 x1 x2 HNi A hE hcell hEA hEB hbA hb HBB g3 hLn xl;generalize wr.heap.size=gb at*;obtain⟨al,q0,q1,q2,q3,q4,q5,q6,q7,q8⟩:=Ax.e9;obtain⟨bl,r0,r1,r2,r3,r4,r5,r6,r7,r8⟩:=Bx.e9;clear q0 q1 q2 q3 q5 q6 q7 q8 r0 r1 r2 r3 r6 r7 r8 Ax Bx;have gj:decide (logA.length<c)=false:=decide_eq_false (by omega)
    go_region_held3 (fun w'=>w'.cell? ⟨ga,4,none⟩=some (.slice laA logA.length lcA)∧w'.cell? ⟨gb,4,none⟩=some (.slice laB logB.length lcB)∧w'.cell? ⟨gb,5,none⟩=some (.int .i64 c)) (go_keep)
     (first | (go_at_call 13;refine (KF.out _ (Below.refl _ _).drew).mono ?_;rintro e wc ⟨rfl,hb1'⟩;have hb1:=below_undrew hb1';replace q4:=(hb1.cell (p:=⟨ga,4,none⟩) al).trans q4;replace r4:=(hb1.cell (p:=⟨gb,4,none⟩) bl).trans r4;replace r5:=(hb1.cell (p:=⟨gb,5,none⟩) bl).trans r5))
    go_wp2;go_roundw
    case rel=>exact⟨j+1,by omega,by go_num,HK.out _ hb1⟩
    case measure=>simp [intOf];omega
end Go.Proofs.YtapfhhmimkkhnaaGreat
namespace Go.Proofs.YtapfhhmimkkhnaaGreat
open Go.RowKit Go.ChangeShapes Go.WideShapes Go.ChangeAt
set_option maxRecDepth 100000
theorem YL_of_trod {H:Type} {enc:TypeId×Value→H} {P:Program} {w:World} {base:Nat} {spare:Nat→Bool} {held:Bool} {t e:TypeId} {fuel:Nat} {v:Value} {x:DataW H×List MemPlace}
  (ht:P.underlying t=some (.slice e)) (he:P.underlying e=some (.int .u8)) (ce:P.cellsOf e=1)
  (h:DataW.trod enc P w base spare held fuel t [v]=some x):
  ∃l:List UInt8,YL w v l∧l.length≤maxLen:=by
 rcases open_ints ht he ce h with⟨hv,_⟩ | ⟨a,len,cap,zs,hv,hb,hl,hm,hz,hx,hcell,hws⟩
 ·simp only [List.cons.injEq,and_true] at hv;subst hv;exact⟨[],⟨none,0,rfl,fun h=>absurd rfl h⟩,by simp⟩
 ·simp only [List.cons.injEq,and_true] at hv;subst hv;have hls:len≤zs.length:=by rw [hz];split <;>omega
  have hlen:((zs.take len).map fun z=>UInt8.ofNat z.toNat).length=len:=by simp;omega
  refine⟨(zs.take len).map fun z=>UInt8.ofNat z.toNat,⟨some a,cap,by rw [hlen],fun hne=> ?_⟩,by rw [hlen];omega⟩;have hpos:0<len:=by
   rcases Nat.eq_zero_or_pos len with h0 | h0
   ·subst h0;simp at hne
   ·exact h0
  have hc0:=hcell 0 (by omega);have hsp:a.spot=none:=by
   have:=World.cell?_spot hc0;simpa [Addr.add] using this
  obtain⟨b,off,spot⟩:=a;simp only at hsp;subst hsp;have hbl:=World.block_lt_of_cell? _ _ hc0;refine⟨b,off,rfl,by simpa [Addr.add] using hbl,fun i hi=> ?_⟩;have hi':i<len:=by omega
  have hk:=hcell i (by omega);have hwf:=hws (zs.getD i 0) (by rw [List.getD_eq_getElem?_getD,List.getElem?_eq_getElem (by omega),Option.getD_some];exact List.getElem_mem _);have hr:0≤zs.getD i 0∧zs.getD i 0≤255:=by
   simp only [Lit.wf,Bool.and_eq_true,decide_eq_true_eq] at hwf;exact⟨hwf.1,hwf.2⟩
  have hg:(((zs.take len).map fun z=>UInt8.ofNat z.toNat)[i].toNat:Int)=zs.getD i 0:=by
   rw [List.getElem_map,List.getElem_take,UInt8.toNat_ofNat'];have e:zs[i]'(by omega)=zs.getD i 0:=by rw [List.getD_eq_getElem?_getD,List.getElem?_eq_getElem (by omega),Option.getD_some]
   rw [e];omega
  rw [hg,←hk];congr 1;by_cases h0:i=0
  ·subst h0;simp [Addr.add]
  ·simp [Addr.add,h0]
end Go.Proofs.YtapfhhmimkkhnaaGreat
