/-
  The walk of FnElection.
  From the reading of an argument to the lists that the contracts speak of: a slice of bytes that came in.
-/
import Derived.Test.YtapfhhmimkkhnaaGreatTZToCU
import Derived.Test.YtapfhhmimkkhnaaGreatCUi
import Derived.Test.YtapfhhmimkkhnaaGreatNCToCC2
import Derived.Test.YtapfhhmimkkhnaaGreatCMDToD5
import Derived.ChangeSlices
namespace Go.Proofs.YtapfhhmimkkhnaaGreat
open Go.RowKit Go.Maps
set_option linter.unusedVariables false
set_option maxRecDepth 100000
set_option maxHeartbeats 16000000
theorem sl_to28 (a:Option Addr) (n cap p:Nat) (w:World) (hp:p≤cap):(Instr.sliceAt 28 (.slice a n cap) none (some (.int .i64 p)) none).run Tryz.prog w= .ok (.slice a p cap) w:=by
 have h1:(p:Int)≤(cap:Int):=by omega
 have h2:(0:Int)≤(p:Int):=by omega
 have hA:(Instr.sliceAt 28 (.slice a n cap) none (some (.int .i64 p)) none).run Tryz.prog w=(Instr.slice 28 (.slice a n cap) none (some (.int .i64 p)) none).run Tryz.prog w:=by simp [Instr.sliceAt,run_underlying Tryz.underlying28]
 rw [hA]
 cases a <;>simp [Instr.slice,Instr.sliceBounds,Instr.sliceBound,asIntOf,run_underlying Tryz.underlying28,hp,h2,Tryz.sizeOf34,Addr.add]
theorem ldS_rise {n:Nat} {N:List Nd} {M:List Ms} {L:List Ld} (h:Fits n N M L) (hid:∀i,i<N.length→(N.getD i Nd.zero).id=(i:Int)) (t i j:Nat) (hi:i<(ldS N t).length) (hj:j<(ldS N t).length) (hij:i<j):(ldS N t)[i].t<(ldS N t)[j].t:=by
 have hp:=List.pairwise_iff_getElem.1 (ldS_pw N hid t) i j hi hj hij;obtain⟨a,ha,ra,_,_,ea⟩:=(mem_ldS N t _).1 (List.getElem_mem hi);obtain⟨b,hb,rb,_,_,eb⟩:=(mem_ldS N t _).1 (List.getElem_mem hj);rcases hp with hp | ⟨e,hp⟩
 ·exact hp
 ·exfalso
  rw [ea,eb] at e hp;simp only [ldOf] at e hp;have g:∀k (hk:k<N.length),N.getD k Nd.zero=N[k]:=fun k hk=>by simp [List.getD,hk]
  have:=h.leads a b ha hb (by rw [←g a ha];exact ra) (by rw [←g b hb];exact rb) (by rw [←g a ha,←g b hb];exact e);subst this;omega
theorem law3 (v:Value) (l:List UInt8) (w:World) (hv:YL w v l) (hl:l.length≤9223372036854775807):
  Calls Tryz.prog 3 #[v] w fun e w'=>e= .returned (.bool true)∧Below w.heap.size w w':=by
 have DR:=drawPC_any v l w hv hl;obtain⟨a,cap,rfl,_⟩:=hv;go_enter Tryz.func3,Tryz.ntmps3;by_cases hsz:(1048576:Int)<(l.length:Int)
 ·clear DR;go_wp2;go_ret;exact⟨rfl,Below.refl _ _⟩
 go_wp2_with fail;refine DR.mono ?_;rintro e w0 ⟨⟨pe,sv,L,rfl,oL,hlen,hd⟩,hB⟩;have hz0:=hB.size;clear DR;have PY:=played_any pe sv L w0 _ oL (by omega) (drawn_short hd);obtain⟨sa,sc,rfl⟩:=ze_ oL;have RB:=fun {N:List Nv} {M:List Mv} =>plR_bnd pe L (N:=N) (M:=M);have RF:plOk pe L=true→1≤pe∧pe≤7∧PF pe.toNat (plR (plOk pe L) pe.toNat L):=fun h=>by have:=plR_pf h;rw [h];exact this
 have RZ:plOk pe L=false→(plR (plOk pe L) pe.toNat L).n= []:=fun h=>by rw [h];simp [plR]
 generalize plR (plOk pe L) pe.toNat L=R at*;generalize plOk pe L=ok at*;obtain⟨Rn,Rm,Rl⟩:=R;dsimp only at RB RF RZ;clear hd oL;go_wp2_with fail;refine PY.mono ?_;rintro e w1 ⟨⟨un,um,ul,N,M,rfl,O,hN,hM⟩,hb⟩;dsimp only at O hN hM;have hCS:=(RB hN hM).1;replace hB:=za_ hB hb;have hz1:=hb.size;clear hb PY RB;obtain⟨⟨na,nc,h1⟩,⟨ma,mc,h2⟩,la,lc,h3⟩:=O.shapes;subst h1 h2 h3;obtain⟨Wp,hWp⟩:∃W,W=w1.alloc (.cells #[.slice na N.length nc,.slice ma M.length mc,.slice la Rl.length lc] 30):=⟨_,rfl⟩;have bx:=zb_ w1 (.cells #[.slice na N.length nc,.slice ma M.length mc,.slice la Rl.length lc] 30);have P:=Box.new w1 #[.slice na N.length nc,.slice ma M.length mc,.slice la Rl.length lc] 30;rw [←hWp] at bx P;replace O:=O.below bx;replace hB:=za_ hB bx;have hz2:=bx.size;clear bx
 cases ok with
 | false=>
  have hz:N= []:=by have:=RZ rfl;rw [this] at hN;exact List.map_eq_nil_iff.1 hN
  subst hz;clear RF RZ O hN hM hCS;have HF:Hid (Below w.heap.size w Wp):=hB;obtain⟨xl,x0,x1,x2⟩:=P.c3;rw [hWp] at xl x0 x1 x2;clear hB P;go_wp2;go_ret;exact⟨rfl,by have:=HF.out;rw [hWp] at this;exact this⟩
 | true=>
  obtain⟨p1,p7,PFh⟩:=RF rfl;have G:zV_ (N.map Nv.n) (M.map Mv.q) Rl=true:=by rw [hN,hM];exact PFh.g.good
  have FE:=fun i j (hi:i<Rl.length) (hj:j<Rl.length) (e:Rl[i].t=Rl[j].t)=>PFh.f.election Rl[i] Rl[j] (List.getElem_mem hi) (List.getElem_mem hj) e;have HID:=(goodC_ld G).2.2.1;have FI:=PFh.f;rw [show ({ n:=Rn,m:=Rm,l:=Rl } :PS).n=N.map Nv.n from hN.symm] at FI;have FR:=ldS_rise FI HID 1000;have HL:Hid (∀i j (hi:i<Rl.length) (hj:j<Rl.length),Rl[i].t=Rl[j].t→Rl[i].n=Rl[j].n):=fun i j hi hj e=>FE i j hi hj e;have K1:Hid (∀W,Below Wp.heap.size Wp W→Calls Tryz.prog 10 #[.agg #[.slice na N.length nc,.slice ma M.length mc,.slice la Rl.length lc]] W fun e w'=>∃u,e= .returned (.tuple #[u,true])∧w'.ownsRow W.heap.size 34 2 u (ldS (N.map Nv.n) 1000).length (zQ_ (ldS (N.map Nv.n) 1000))∧Below W.heap.size W w'):=fun W h=>by
   have:=implLd_any _ _ _ N M Rl W (O.below h).cr hCS;rw [G] at this;simpa only [ldR,if_true] using this
  have K2:Hid (∀W,Below Wp.heap.size Wp W→Calls Tryz.prog 11 #[.agg #[.slice na N.length nc,.slice ma M.length mc,.slice la Rl.length lc]] W fun e w'=>e= .returned (.bool true)∧Below W.heap.size W w'):=fun W h=>by
   have:=implGoodC_any _ _ _ N M Rl W (O.below h).cr hCS;rw [G] at this;exact this
  have K3:Hid (∀W,Below Wp.heap.size Wp W→Calls Tryz.prog 12 #[.agg #[.slice na N.length nc,.slice ma M.length mc,.slice la Rl.length lc]] W fun e w'=>e= .returned (.bool true)∧Below W.heap.size W w'):=fun W h=>by
   have:=specGoodC_any _ _ _ N M Rl W (O.below h).cr hCS;rw [G] at this;exact this
  have HR:Hid (∀i j (hi:i<(ldS (N.map Nv.n) 1000).length) (hj:j<(ldS (N.map Nv.n) 1000).length),i<j→(ldS (N.map Nv.n) 1000)[i].t<(ldS (N.map Nv.n) 1000)[j].t):=fun i j hi hj h=>FR i j hi hj h;have hSl:(ldS (N.map Nv.n) 1000).length≤7000:=by
   have:=ldS_len (N.map Nv.n) 1000;have h7:=(goodC_ld G).2.1;simp only [List.length_map] at this;omega
  generalize ldS (N.map Nv.n) 1000=S at*;have hcap:Rl.length≤lc:=(owns_cap O.l).1;obtain⟨a1,c1,e1,HC⟩:=O.cr.l;injection e1 with e1 f1 g1;subst e1 g1;clear f1;have nL:=hCS.l;clear FE FI FR HID G PFh RF RZ hN hM hCS O;obtain⟨xl,x0,x1,x2⟩:=P.c3;have HP:Hid (Box Wp w1.heap.size [.slice na N.length nc,.slice ma M.length mc,.slice la Rl.length lc]):=P;have HB:Hid (Below w.heap.size w Wp):=hB;have xl':=xl;rw [hWp] at xl x0 x1 x2;clear hB P;go_wp2;rw [←hWp] at x0 x1 x2 ⊢;clear hWp xl;have xl:=xl';clear xl'
  go_loopw [41] (fun i wr=>∃k:Nat,k≤Rl.length∧i= .int .i64 k∧Below Wp.heap.size Wp wr) (fun i _=>Rl.length-(intOf i).toNat)
  case atStart=>exact⟨0,Nat.zero_le _,rfl,Below.refl _ _⟩
  case round=>
   obtain⟨i,hi,rfl,hb⟩:=hrel;have hz:=hb.size;by_cases hlt:i<Rl.length;rotate_left
   ·have P2:=HP.out.below hb;have HBw:Hid (Below Wp.heap.size Wp wr):=hb;have KC:=K1.out wr hb;clear HC HL HP x0 x1 x2 K1 hb;obtain⟨yl,y0,y1,y2⟩:=P2.c3;go_wp2_with fail;refine KC.mono ?_;rintro e w5 ⟨u,rfl,OS,hb5⟩;obtain⟨ua,uc,rfl⟩:=ze_ OS;obtain⟨a2,c2,e2,HS⟩:=LW_of_owns OS rfl;injection e2 with e2 f2 g2;subst e2 g2;clear f2 OS KC yl y0 y1 y2;have hz5:=hb5.size;have P3:=P2.below hb5;have HB5:Hid (Below Wp.heap.size Wp w5):=HBw.out.trans (hb5.mono hz);clear P2 HBw hb5;go_wp2
    go_loopw [14] (fun q wn=>∃k:Nat,1≤k∧(k≤S.length∨k=1)∧q= .int .i64 k∧Below w5.heap.size w5 wn) (fun q _=>S.length-(intOf q).toNat)
    case atStart=>exact⟨1,Nat.le_refl _,.inr rfl,rfl,Below.refl _ _⟩
    case round=>
     obtain⟨k,hk1,hk2,rfl,hbn⟩:=hrel;have hzn:=hbn.size;have P4:=P3.below hbn;have hz6:Wp.heap.size≤w5.heap.size:=HB5.out.size;have HB6:Hid (Below Wp.heap.size Wp wr):=HB5.out.trans (hbn.mono hz6);by_cases hks:k<S.length
     ·have hki:(k:Int)<(S.length:Int):=by omega
      obtain⟨k',rfl⟩:∃k',k=k'+1:=⟨k-1,by omega⟩;obtain⟨b,off,rfl,hbl,hcell⟩:=HS (by intro e;simp [e] at hks);obtain⟨z0,_⟩:=hcell (k'+1) hks;obtain⟨y0,_⟩:=hcell k' (by omega);have hc0:=(hbn.cell (p:=⟨b,off+(k'+1)*2,none⟩) hbl).trans z0;have hd0:=(hbn.cell (p:=⟨b,off+k'*2,none⟩) hbl).trans y0;have HQ:=HR.out k' (k'+1) (by omega) hks (by omega);have g1:((k':Int)+1)<(S.length:Int):=by omega
      have g2:(k':Int)<(S.length:Int):=by omega
      have g3:(0:Int)≤(k':Int):=by omega
      have g4:(0:Int)≤(k':Int)+1:=by omega
      have HBn:Hid (Below w5.heap.size w5 wr):=hbn;clear z0 y0 hcell HS HR K2 K3 HB P3 P4 HB5 HB6 hbn;generalize S[k'+1].t=tB at*;generalize S[k'].t=tA at*;have g5:¬tB≤tA:=by omega
      have g6:decide (tB≤tA)=false:=decide_eq_false g5;go_wp2_with fail
      go_quiet (fail)
      go_wp2;go_roundw
      case rel=>exact⟨k'+2,by omega,.inl (by omega),by go_num,below_drewN HBn.out _⟩
      case measure=>simp [intOf];omega
     ·have hki:¬(k:Int)<(S.length:Int):=by omega
      have KA:=K2.out wr HB6.out;obtain⟨yl,y0,y1,y2⟩:=P4.c3;clear HS HR K2 P3 HB5 hbn;go_wp2_with fail;refine KA.mono ?_;rintro e w6 ⟨rfl,hb6⟩;have P5:=P4.below hb6;have HB7:Hid (Below Wp.heap.size Wp w6):=HB6.out.trans (hb6.mono (by omega));have hz7:=HB7.out.size;have KB:=K3.out w6 HB7.out;clear KA P4 yl y0 y1 y2 K3 HB6 hb6;obtain⟨yl,y0,y1,y2⟩:=P5.c3;go_wp2_with fail;refine KB.mono ?_;rintro e w7 ⟨rfl,hb7⟩;have HF:Hid (Below w.heap.size w w7):=HB.out.trans ((HB7.out.trans (hb7.mono hz7)).mono (by omega));clear KB P5 yl y0 y1 y2 HB HB7 hb7;go_wp2;go_ret;exact⟨rfl,HF.out⟩
   have hil:(i:Int)<(Rl.length:Int):=by omega
   obtain⟨b,off,rfl,hbl,hcell⟩:=HC (by intro e;simp [e] at hlt);obtain⟨z0,z1⟩:=hcell i hlt;have hc0:=(hb.cell (p:=⟨b,off+i*2,none⟩) hbl).trans z0;have hc1:=(hb.cell (p:=⟨b,off+i*2+1,none⟩) hbl).trans z1;have HLi:Hid (∀j (hj:j<Rl.length),Rl[i].t=Rl[j].t→Rl[i].n=Rl[j].n):=fun j hj e=>HL.out i j hlt hj e;clear z0 z1;generalize Rl[i]=s at*;obtain⟨tA,nA⟩:=s;dsimp only at hc0 hc1 HLi;have X2:=(hb.cell (p:=⟨w1.heap.size,2,none⟩) xl).trans x2;have BA:=zb_ wr (.cells #[tA,nA] 34);have A:=Box.new wr #[tA,nA] 34;have hbA:=za_ hb BA;replace X2:=(BA.cell (p:=⟨w1.heap.size,2,none⟩) (by show w1.heap.size<_;omega)).trans X2;have HSn:=fun W=>sl_to28 (some ⟨b,off,none⟩) Rl.length lc i W (by omega);obtain⟨WA,hWA⟩:∃W,W=wr.alloc (.cells #[tA,nA] 34):=⟨_,rfl⟩;rw [←hWA] at A hbA;have hzA:wr.heap.size+1=WA.heap.size:=by rw [hWA];simp
   clear BA;go_wp2_with (first | (refine yo_ _ rfl 28 _ _ _ _ rfl _ (HSn _) ?_;simp only [Act.put,sA_,sB_,sC_]));rw [←hWA];clear hWA hc0 hc1 HSn X2;generalize wr.heap.size=ga at*
   go_loopw [51] (fun q wm=>∃j:Nat,j≤i∧q= .int .i64 j∧Below WA.heap.size WA wm) (fun q _=>i-(intOf q).toNat)
   case atStart=>exact⟨0,Nat.zero_le _,rfl,Below.refl _ _⟩
   case round=>
    obtain⟨j,hj,rfl,hbm⟩:=hrel;by_cases hlj:j<i;rotate_left
    ·have hji:¬(j:Int)<(i:Int):=by omega
     have HF:Hid (Below Wp.heap.size Wp wr):=hbA.trans (hbm.mono (by omega));clear HC HL HP HB x0 x1 x2 HLi A hcell K1 K2 K3 HR;go_wp2;go_roundw
     case rel=>exact⟨i+1,by omega,by go_num,HF.out⟩
     case measure=>simp [intOf];omega
    have hjN:j<Rl.length:=by omega
    have hjl:(j:Int)<(i:Int):=by omega
    obtain⟨z0,z1⟩:=hcell j hjN;have hbp:=hbA.trans (hbm.mono (show Wp.heap.size≤WA.heap.size from hbA.size));have hd0:=(hbp.cell (p:=⟨b,off+j*2,none⟩) hbl).trans z0;have hd1:=(hbp.cell (p:=⟨b,off+j*2+1,none⟩) hbl).trans z1;have HLj:Hid (tA=Rl[j].t→nA=Rl[j].n):=fun e=>HLi.out j hjN e;clear z0 z1;generalize Rl[j]=s at*;obtain⟨tB,nB⟩:=s;dsimp only at hd0 hd1 HLj;have hzm:=hbm.size;have BB:=zb_ wr (.cells #[tB,nB] 34);have Bx:=Box.new wr #[tB,nB] 34;have hbB:=za_ hbm BB;have Ax:=(A.below hbm).below BB;obtain⟨al,q0,q1⟩:=Ax.b2;obtain⟨bl,r0,r1⟩:=Bx.b2;have HBB:Hid (Below WA.heap.size WA (wr.alloc (.cells #[tB,nB] 34))):=hbB;clear BB hbB Ax Bx HC HL HP HB x0 x1 x2 HLi A hcell K1 K2 K3 HR hbp hbm;by_cases ht:tA=tB
    ·obtain rfl:nA=nB:=HLj.out ht;subst ht;clear HLj;go_wp2;go_roundw
     case rel=>exact⟨j+1,by omega,by go_num,HBB.out⟩
     case measure=>simp [intOf];omega
    ·clear HLj;go_wp2;go_roundw
     case rel=>exact⟨j+1,by omega,by go_num,HBB.out⟩
     case measure=>simp [intOf];omega
end Go.Proofs.YtapfhhmimkkhnaaGreat
namespace Go.Proofs.YtapfhhmimkkhnaaGreat
open Go.RowKit Go.ChangeShapes Go.WideShapes Go.ChangeAt
set_option maxRecDepth 100000
theorem YL_of_trod {H:Type} {enc:TypeId×Value→H} {P:Program} {w:World} {base:Nat} {spare:Nat→Bool} {held:Bool} {t e:TypeId} {fuel:Nat} {v:Value} {x:DataW H×List MemPlace}
  (ht:P.underlying t=some (.slice e)) (he:P.underlying e=some (.int .u8)) (ce:P.cellsOf e=1)
  (h:DataW.trod enc P w base spare held fuel t [v]=some x):
  ∃l:List UInt8,YL w v l∧l.length≤maxLen:=by
 rcases open_ints ht he ce h with⟨hv,_⟩ | ⟨a,len,cap,zs,hv,hb,hl,hm,hz,hx,hcell,hws⟩
 ·simp only [List.cons.injEq,and_true] at hv;subst hv;exact⟨[],⟨none,0,rfl,fun h=>absurd rfl h⟩,by simp⟩
 ·simp only [List.cons.injEq,and_true] at hv;subst hv;have hls:len≤zs.length:=by rw [hz];split <;>omega
  have hlen:((zs.take len).map fun z=>UInt8.ofNat z.toNat).length=len:=by simp;omega
  refine⟨(zs.take len).map fun z=>UInt8.ofNat z.toNat,⟨some a,cap,by rw [hlen],fun hne=> ?_⟩,by rw [hlen];omega⟩;have hpos:0<len:=by
   rcases Nat.eq_zero_or_pos len with h0 | h0
   ·subst h0;simp at hne
   ·exact h0
  have hc0:=hcell 0 (by omega);have hsp:a.spot=none:=by
   have:=World.cell?_spot hc0;simpa [Addr.add] using this
  obtain⟨b,off,spot⟩:=a;simp only at hsp;subst hsp;have hbl:=World.block_lt_of_cell? _ _ hc0;refine⟨b,off,rfl,by simpa [Addr.add] using hbl,fun i hi=> ?_⟩;have hi':i<len:=by omega
  have hk:=hcell i (by omega);have hwf:=hws (zs.getD i 0) (by rw [List.getD_eq_getElem?_getD,List.getElem?_eq_getElem (by omega),Option.getD_some];exact List.getElem_mem _);have hr:0≤zs.getD i 0∧zs.getD i 0≤255:=by
   simp only [Lit.wf,Bool.and_eq_true,decide_eq_true_eq] at hwf;exact⟨hwf.1,hwf.2⟩
  have hg:(((zs.take len).map fun z=>UInt8.ofNat z.toNat)[i].toNat:Int)=zs.getD i 0:=by
   rw [List.getElem_map,List.getElem_take,UInt8.toNat_ofNat'];have e:zs[i]'(by omega)=zs.getD i 0:=by rw [List.getD_eq_getElem?_getD,List.getElem?_eq_getElem (by omega),Option.getD_some]
   rw [e];omega
  rw [hg,←hk];congr 1;by_cases h0:i=0
  ·subst h0;simp [Addr.add]
  ·simp [Addr.add,h0]
end Go.Proofs.YtapfhhmimkkhnaaGreat
