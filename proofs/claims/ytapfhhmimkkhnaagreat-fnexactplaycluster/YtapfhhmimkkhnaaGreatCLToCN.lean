/-
  Messages in a row, marked: markRaftMsgS.
  A cluster marked: markLeadS, markCluster.
  A cluster held against its marks: heldRaftNodeS, heldRaftMsgS, heldLeadS, heldCluster.
-/
import Derived.Test.YtapfhhmimkkhnaaGreatCFToCK
import Derived.Deep.Cut
namespace Go.Proofs.YtapfhhmimkkhnaaGreat
open Go.RowKit Go.Maps
set_option linter.unusedVariables false
set_option maxRecDepth 100000
set_option maxHeartbeats 16000000
theorem markMsgsS_own (v:Value) (b0 lo mid:Nat) (M:List Mv) (k:Int) (w:World) (ho:w.ownsRow b0 80 9 v M.length (zo_ M)) (hch0:zp_ PM BM w lo mid M) (hn:M.length≤1048576) (hs:∀i (h:i<M.length),M[i].q.es.length≤1048576) (h1:1≤k) (h2:k+(sm uM M:Nat)≤40000000):
  Calls Tryz.prog 58 #[v,k] w fun e w'=>e= .returned (.int .i64 (k+(sm uM M:Nat)))∧w'.ownsRow b0 80 9 v M.length (zo_ (mkL mkMv uM k M))∧zp_ PM BM w' lo mid (mkL mkMv uM k M)∧Chg (fun b=>v.ownBlock=some b∨∃i,∃h:i<M.length,BM M[i] b) w w':=by
 rcases ho.2 with⟨rfl,h0⟩ | ⟨g,cap,cur,rfl,_⟩
 ·obtain rfl:M= []:=List.length_eq_zero_iff.1 h0;simp only [sm];go_enter Tryz.func58,Tryz.ntmps58;go_wp2
  go_loopw [1,5] (fun t i wr=>i= .int .i64 0∧t= .int .i64 k∧wr=w) (fun _ _ _=>0)
  case atStart=>exact⟨rfl,rfl,rfl⟩
  case round=>
   obtain⟨rfl,rfl,rfl⟩:=hrel;go_wp2;go_ret;exact⟨by simp,ho,hch0,Chg.refl _ _⟩
 obtain⟨S,hS⟩:∃S:Nat→Prop,S=fun b=>(Value.slice (some ⟨g,0,none⟩) M.length cap).ownBlock=some b∨∃i,∃h:i<M.length,BM M[i] b:=⟨_,rfl⟩;rw [←hS];have Sg:S g:=by rw [hS];exact .inl rfl
 have Sin:∀i (h:i<M.length) b,BM M[i] b→S b:=fun i h b hb=>by rw [hS];exact .inr ⟨i,h,hb⟩
 clear hS;go_enter Tryz.func58,Tryz.ntmps58;go_wp2
 go_loopw [1,5] (fun t i wr=>∃j:Nat,j≤M.length∧i= .int .i64 j∧t= .int .i64 (k+(sm uM (M.take j):Nat))∧wr.ownsRow b0 80 9 (.slice (some ⟨g,0,none⟩) M.length cap) M.length (zo_ (mkP mkMv uM k M j))∧zp_ PM BM wr lo mid (mkP mkMv uM k M j)∧Chg S w wr) (fun _ i _=>M.length-(intOf i).toNat)
 case atStart=>exact⟨0,Nat.zero_le _,rfl,by simp [sm],by rw [mkP_zero];exact ho,by rw [mkP_zero];exact hch0,Chg.refl _ _⟩
 case round=>
  clear ho hch0;obtain⟨j,hj,rfl,rfl,hown,hch,hC⟩:=hrel;by_cases hlt:j<M.length
  ·have hpl:=mkP_length mkMv uM k M j hj;have e0:=mkP_at mkMv uM k M j hlt;obtain⟨base,hb0,hP,hin⟩:=hch.at j (by omega);rw [e0] at hP hin;have hss:=hs j hlt;have Sj:=Sin j hlt;have hkb:=zR_ uM M j;have hkc:=zR_ uM M (j+1);have HK2:Hid (sm uM (M.take (j+1))=sm uM (M.take j)+uM M[j]):=sm_take uM M j hlt;have HG:∀i (hi:i<(mkP mkMv uM k M j).length),¬BM (mkP mkMv uM k M j)[i] g:=fun i hi hh=>by
    obtain⟨_,_,q,_⟩:=hch.at i hi;exact PM.row_ne q hown (by decide) g hh rfl
   have n0:=PM.row_ne hP hown (by decide);have HX:Hid (∀w' b',PM w' b' (mkMv (k+(sm uM (M.take j):Nat)) M[j])→Chg (fun b=>b=g∨BM M[j] b) wr w'→zp_ PM BM w' lo mid (mkP mkMv uM k M (j+1))):=fun w' b' hp hc=>by
    rw [←mkP_set mkMv uM k M j hlt];have hj2:j<(mkP mkMv uM k M j).length:=by omega
    refine zp_.setM (g:=g) (base:=b') hch j hj2 _ ?_ hp ?_ HG
    ·rw [e0];intro b hb;simpa [BM,mkMv,zC_] using hb
    ·rw [e0];exact hc
   have HF:Hid _:=flatM_setP (mkP mkMv uM k M j) j (mkMv (k+(sm uM (M.take j):Nat)) M[j]) (by omega) (by rw [e0];simp [mkMv,zC_]);rw [mkP_set mkMv uM k M j hlt] at HF;obtain⟨q0,q1,q2,q3,q4,q5,y6,q7,q8⟩:=flatM_get (mkP mkMv uM k M j) j (by omega);rw [e0] at y6;clear q0 q1 q2 q3 q4 q5 q7 q8;clear hpl e0 HG hch hs Sin;obtain⟨FL,HFL⟩:∃FL,Hid (zo_ (mkP mkMv uM k M (j+1))=FL):=⟨zo_ (mkP mkMv uM k M (j+1)),rfl⟩;rw [HFL.out] at HF;generalize zo_ (mkP mkMv uM k M j)=ys at*;obtain⟨kj,HKJ⟩:∃kj:Int,Hid (k+(sm uM (M.take j):Nat)=kj):=⟨_,rfl⟩;rw [HKJ.out] at HX HF ⊢;have hk1:1≤kj:=by have:=HKJ.out;omega
   have hk2:kj≤40000000:=by have:=HKJ.out;omega
   have HK3:Hid (k+(sm uM (M.take (j+1)):Nat)=kj+(uM M[j]:Nat)):=by have:=HKJ.out;have:=HK2.out;show _=_;omega
   clear HK2 HKJ hkb hkc;generalize M[j]=s at*;obtain⟨⟨ki,fr,dst,te,ix,be,co,ye,es⟩,ea,ec⟩:=s;dsimp only [mkMv] at HX HF y6 hss;dsimp only [PM,BM] at hP hin n0 HX Sj;have HU:Hid ((uM ⟨⟨ki,fr,dst,te,ix,be,co,ye,es⟩,ea,ec⟩:Int)=8+2*(es.length:Int)):=by show _=_;simp [uM]
   have hgl:=(zU_ hown).2;have i1:∀b,(.slice ea es.length ec:Value).ownBlock=some b→lo≤b∧b<mid∧¬b=g:=fun b h=>⟨(hin b h).1,(hin b h).2,fun e=>n0 b h (by rw [e];rfl)⟩;have K1:=fun W h=>markEntryS_own (.slice ea es.length ec) base es (kj+1+1+1+1+1+1) W h hss (by omega) (by omega);have CT:Chg (fun b=>b=g∨(.slice ea es.length ec:Value).ownBlock=some b) wr wr:=Chg.refl _ _;clear n0 hin;obtain⟨⟨u0,d0⟩,f0⟩:=ye_ hown j hlt 0 (by omega);obtain⟨⟨u1,d1⟩,f1⟩:=ye_ hown j hlt 1 (by omega);obtain⟨⟨u2,d2⟩,f2⟩:=ye_ hown j hlt 2 (by omega);obtain⟨⟨u3,d3⟩,f3⟩:=ye_ hown j hlt 3 (by omega);obtain⟨⟨u4,d4⟩,f4⟩:=ye_ hown j hlt 4 (by omega);obtain⟨⟨u5,d5⟩,f5⟩:=ye_ hown j hlt 5 (by omega);rw [Nat.add_zero] at d0 f0;have o4:=((((((hown.stored (j*9) (.int .i64 (kj))).1.stored (j*9+1) (.int .i64 (kj+1))).1.stored (j*9+2) (.int .i64 (kj+1+1))).1.stored (j*9+3) (.int .i64 (kj+1+1+1))).1.stored (j*9+4) (.int .i64 (kj+1+1+1+1))).1.stored (j*9+5) (.int .i64 (kj+1+1+1+1+1))).1;obtain⟨W4,hW4⟩:∃W,W=((((((wr).setCell ⟨g,j*9,none⟩ (.int .i64 (kj))).setCell ⟨g,j*9+1,none⟩ (.int .i64 (kj+1))).setCell ⟨g,j*9+2,none⟩ (.int .i64 (kj+1+1))).setCell ⟨g,j*9+3,none⟩ (.int .i64 (kj+1+1+1))).setCell ⟨g,j*9+4,none⟩ (.int .i64 (kj+1+1+1+1))).setCell ⟨g,j*9+5,none⟩ (.int .i64 (kj+1+1+1+1+1)):=⟨_,rfl⟩;rw [←hW4] at o4;have hc4:Chg (fun b=>b=g) wr W4:=by
    rw [hW4]
    iterate 6 (refine Chg.setCell (S:=fun b=>b=g) ?_ rfl _)
    exact Chg.refl _ _
   replace hP:=hc4.owns hP (fun b hb e=>(i1 b hb).2.2 e);replace hC:=hC.trans (hc4.mono fun b e=>by rw [e];exact Sg);replace CT:=CT.trans (hc4.mono fun b e=> .inl e);have e6:W4.cell? ⟨g,j*9+6,none⟩=some (.slice ea es.length ec):=by
    rw [o4.cellAt (j*9+6) (by omega)];rw [List.getElem?_set_ne (by omega),List.getElem?_set_ne (by omega),List.getElem?_set_ne (by omega),List.getElem?_set_ne (by omega),List.getElem?_set_ne (by omega),List.getElem?_set_ne (by omega)];exact y6
   clear hown hc4 y6;go_upto_region 16 with fail;rw [←hW4];clear hW4 d0 d1 d2 d3 d4 d5 f0 f1 f2 f3 f4 f5;go_wp2_with fail;refine (K1 _ hP).mono ?_;rintro e w5 ⟨rfl,o1,hc⟩;replace o4:=hc.owns o4 (fun b hb hh=>(i1 b hh).2.2 (by simpa [Value.ownBlock] using hb.symm));replace hC:=hC.trans (hc.mono fun b e=>Sj b e);replace CT:=CT.trans (hc.mono fun b e=> .inr e);clear K1 hc hP e6;obtain⟨⟨u7,d7⟩,f7⟩:=ye_ o4 j hlt 7 (by omega);obtain⟨⟨u8,d8⟩,f8⟩:=ye_ o4 j hlt 8 (by omega);have hg5:=(zU_ o4).2;have o6:=((o4.stored (j*9+7) (.int .i64 (kj+1+1+1+1+1+1+2*(es.length:Int)))).1.stored (j*9+8) (.bool ((kj+1+1+1+1+1+1+2*(es.length:Int)+1) % 3==0))).1;obtain⟨W6,hW6⟩:∃W,W=((w5).setCell ⟨g,j*9+7,none⟩ (.int .i64 (kj+1+1+1+1+1+1+2*(es.length:Int)))).setCell ⟨g,j*9+8,none⟩ (.bool ((kj+1+1+1+1+1+1+2*(es.length:Int)+1) % 3==0)):=⟨_,rfl⟩;rw [←hW6] at o6;have hc6:Chg (fun b=>b=g) w5 W6:=by
    rw [hW6]
    iterate 2 (refine Chg.setCell (S:=fun b=>b=g) ?_ rfl _)
    exact Chg.refl _ _
   replace o1:=hc6.owns o1 (fun b hb e=>(i1 b hb).2.2 e);replace hC:=hC.trans (hc6.mono fun b e=>by rw [e];exact Sg);replace CT:=CT.trans (hc6.mono fun b e=> .inl e);rw [HF.out] at o6;have HO:Hid _:=o6;have HCH:=HX.out W6 base (by simp only [zC_];exact o1) CT;have HR:Hid (kj+1+1+1+1+1+1+2*(es.length:Int)+1+1=k+(sm uM (M.take (j+1)):Nat)):=by have:=HK3.out;have:=HU.out;show _=_;omega
   clear o1 o4 o6 CT HX HF i1 HK3 HU hc6 Sj;rw [←HFL.out] at HO;clear HFL;rw [hW6] at HO HCH hC;clear hW6;go_wp2;go_roundw
   case rel=>exact⟨j+1,by omega,by go_num,by rw [←HR.out],HO.out,HCH,hC⟩
   case measure=>simp [intOf];omega
  ·obtain rfl:j=M.length:=by omega
   rw [mkP_all] at hown hch;rw [List.take_length];clear hs;go_wp2;go_ret;exact⟨rfl,hown,hch,hC⟩
theorem markLeadS_own (v:Value) (b0:Nat) (L:List Ld) (k:Int) (w:World) (ho:w.ownsRow b0 34 2 v L.length (yf_ L)) (hn:L.length≤1048576) (h1:1≤k) (h2:k+(sm uL L:Nat)≤40000000):
  Calls Tryz.prog 59 #[v,k] w fun e w'=>e= .returned (.int .i64 (k+(sm uL L:Nat)))∧w'.ownsRow b0 34 2 v L.length (yf_ (mkL mkLd uL k L))∧Chg (fun b=>v.ownBlock=some b) w w':=by
 rcases ho.2 with⟨rfl,h0⟩ | ⟨g,cap,cur,rfl,_⟩
 ·obtain rfl:L= []:=List.length_eq_zero_iff.1 h0;simp only [sm];go_enter Tryz.func59,Tryz.ntmps59;go_wp2
  go_loopw [1,5] (fun t i wr=>i= .int .i64 0∧t= .int .i64 k∧wr=w) (fun _ _ _=>0)
  case atStart=>exact⟨rfl,rfl,rfl⟩
  case round=>
   obtain⟨rfl,rfl,rfl⟩:=hrel;go_wp2;go_ret;exact⟨by simp,ho,Chg.refl _ _⟩
 go_enter Tryz.func59,Tryz.ntmps59;go_wp2
 go_loopw [1,5] (fun t i wr=>∃j:Nat,j≤L.length∧i= .int .i64 j∧t= .int .i64 (k+(sm uL (L.take j):Nat))∧wr.ownsRow b0 34 2 (.slice (some ⟨g,0,none⟩) L.length cap) L.length (yf_ (mkP mkLd uL k L j))∧Chg (fun b=>(Value.slice (some ⟨g,0,none⟩) L.length cap).ownBlock=some b) w wr) (fun _ i _=>L.length-(intOf i).toNat)
 case atStart=>exact⟨0,Nat.zero_le _,rfl,by simp [sm],by rw [mkP_zero];exact ho,Chg.refl _ _⟩
 case round=>
  clear ho;obtain⟨j,hj,rfl,rfl,hown,hC⟩:=hrel;by_cases hlt:j<L.length
  ·have hpl:=mkP_length mkLd uL k L j hj;have hkb:=zR_ uL L j;have hkc:=zR_ uL L (j+1);have HK2:Hid (sm uL (L.take (j+1))=sm uL (L.take j)+uL L[j]):=sm_take uL L j hlt;have HF:Hid _:=flatL_set (mkP mkLd uL k L j) j (mkLd (k+(sm uL (L.take j):Nat)) L[j]);rw [mkP_set mkLd uL k L j hlt] at HF;clear hpl;obtain⟨FL,HFL⟩:∃FL,Hid (yf_ (mkP mkLd uL k L (j+1))=FL):=⟨yf_ (mkP mkLd uL k L (j+1)),rfl⟩;rw [HFL.out] at HF;generalize yf_ (mkP mkLd uL k L j)=ys at*;obtain⟨kj,HKJ⟩:∃kj:Int,Hid (k+(sm uL (L.take j):Nat)=kj):=⟨_,rfl⟩;rw [HKJ.out] at HF ⊢;have hk1:1≤kj:=by have:=HKJ.out;omega
   have hk2:kj≤40000000:=by have:=HKJ.out;omega
   have HR:Hid (kj+1+1=k+(sm uL (L.take (j+1)):Nat)):=by have:=HKJ.out;have:=HK2.out;simp only [uL] at this;show _=_;omega
   clear HK2 HKJ hkb hkc;dsimp only [mkLd] at HF;have hgl:=(zU_ hown).2;obtain⟨⟨u0,d0⟩,f0⟩:=owns2_at hown j hlt 0 (by omega);obtain⟨⟨u1,d1⟩,f1⟩:=owns2_at hown j hlt 1 (by omega);rw [Nat.add_zero] at d0 f0;have o4:=((hown.stored (j*2) (.int .i64 kj)).1.stored (j*2+1) (.int .i64 (kj+1))).1;rw [HF.out] at o4;have HO:Hid _:=o4;rw [←HFL.out] at HO;replace hC:=(hC.setCell (p:=⟨g,j*2,none⟩) rfl (.int .i64 kj)).setCell (p:=⟨g,j*2+1,none⟩) rfl (.int .i64 (kj+1));clear o4 HF HFL hown;go_wp2;go_roundw
   case rel=>exact⟨j+1,by omega,by go_num,by rw [←HR.out],HO.out,hC⟩
   case measure=>simp [intOf];omega
  ·obtain rfl:j=L.length:=by omega
   rw [mkP_all] at hown;rw [List.take_length];go_wp2;go_ret;exact⟨rfl,hown,hC⟩
theorem mkL_BN (k:Int) (N:List Nv) (i:Nat) (h:i<N.length) (b:Nat):BN ((mkL mkNv uN k N)[i]'(by rw [zH_];exact h)) b↔BN N[i] b:=by
 rw [mkL_at mkNv uN k N i h];simp [BN,mkNv,zC_,zS_]
theorem mkL_BM (k:Int) (M:List Mv) (i:Nat) (h:i<M.length) (b:Nat):BM ((mkL mkMv uM k M)[i]'(by rw [zH_];exact h)) b↔BM M[i] b:=by
 rw [mkL_at mkMv uM k M i h];simp [BM,mkMv,zC_]
def uC (N:List Nv) (M:List Mv) (L:List Ld):Nat:=sm uN N+sm uM M+sm uL L
theorem run_neq_b2 (w:World) (b:Bool):(binOp .neq 4 (.bool b) (.bool b)).run Tryz.prog w= .ok (.bool false) w:=by
 cases b <;>kernel_rfl
theorem heldIntS_il (v:Value) (n:Nat) (k:Int) (w:World) (hv:IL w v (mkZ k n)) (hn:n≤1048576) (hk0:0≤k) (hk1:k≤1073741824):
  Calls Tryz.prog 106 #[v,k] w fun e w'=>e= .returned (.int .i64 (k+n))∧w'=w:=by
 obtain⟨a,cap,rfl,hc⟩:=hv;rw [zS_];go_enter Tryz.func106,Tryz.ntmps106;go_wp2
 go_loopw [1,5] (fun t i wr=>∃j:Nat,j≤n∧i= .int .i64 j∧t= .int .i64 (k+j)∧wr=w) (fun _ i _=>n-(intOf i).toNat)
 case atStart=>exact⟨0,Nat.zero_le _,rfl,by simp,rfl⟩
 case round=>
  obtain⟨j,hj,rfl,rfl,rfl⟩:=hrel;by_cases hlt:j<n
  ·obtain⟨b,off,rfl,hbl,hcell⟩:=hc (by intro e;have:=congrArg List.length e;rw [zS_] at this;simp at this;omega);have d0:=hcell j (by rw [zS_];exact hlt);rw [show (mkZ k n)[j]'(by rw [zS_];exact hlt)=k+(j:Int) from by simp [mkZ]] at d0;clear hcell hc;go_wp2;go_roundw
   case rel=>exact⟨j+1,by omega,by go_num,by go_num,trivial⟩
   case measure=>simp [intOf];omega
  ·obtain rfl:j=n:=by omega
   clear hc;go_wp2;go_ret;exact⟨rfl,rfl⟩
theorem heldNodeS_any (v:Value) (N:List Nv) (k:Int) (w:World) (hv:NW w v (mkL mkNv uN k N)) (he:∀i (h:i<(mkL mkNv uN k N).length),NE w (mkL mkNv uN k N)[i]) (hn:N.length≤1048576) (hs:∀i (h:i<N.length),N[i].n.log.length≤1048576∧N[i].n.vs.length≤1048576∧N[i].n.mt.length≤1048576) (h1:1≤k) (h2:k+(sm uN N:Nat)≤40000000):
  Calls Tryz.prog 60 #[v,k] w fun e w'=>e= .returned (.int .i64 (k+(sm uN N:Nat)))∧Below w.heap.size w w':=by
 have hlen:=zH_ mkNv uN k N;obtain⟨a,cap,rfl,hc⟩:=hv;rw [hlen];go_enter Tryz.func60,Tryz.ntmps60;go_wp2
 go_loopw [1,5] (fun t i wr=>∃j:Nat,j≤N.length∧i= .int .i64 j∧t= .int .i64 (k+(sm uN (N.take j):Nat))∧Below w.heap.size w wr) (fun _ i _=>N.length-(intOf i).toNat)
 case atStart=>exact⟨0,Nat.zero_le _,rfl,by simp [sm],Below.refl _ _⟩
 case round=>
  obtain⟨j,hj,rfl,rfl,hb⟩:=hrel;by_cases hlt:j<N.length
  ·have hlt':j<(mkL mkNv uN k N).length:=by omega
   obtain⟨b,off,rfl,hbl,hcell⟩:=hc (by intro e;rw [e] at hlt';simp at hlt');obtain⟨z0,z1,z2,z3,z4,z5,z6,z7,z8⟩:=hcell j hlt';have e0:=mkL_at mkNv uN k N j hlt;rw [e0] at z0 z1 z2 z3 z4 z5 z6 z7 z8;have hc0:=(hb.cell (p:=⟨b,off+j*9,none⟩) hbl).trans z0;have hc1:=(hb.cell (p:=⟨b,off+j*9+1,none⟩) hbl).trans z1;have hc2:=(hb.cell (p:=⟨b,off+j*9+2,none⟩) hbl).trans z2;have hc3:=(hb.cell (p:=⟨b,off+j*9+3,none⟩) hbl).trans z3;have hc4:=(hb.cell (p:=⟨b,off+j*9+4,none⟩) hbl).trans z4;have hc5:=(hb.cell (p:=⟨b,off+j*9+5,none⟩) hbl).trans z5;have hc6:=(hb.cell (p:=⟨b,off+j*9+6,none⟩) hbl).trans z6;have hc7:=(hb.cell (p:=⟨b,off+j*9+7,none⟩) hbl).trans z7;have hc8:=(hb.cell (p:=⟨b,off+j*9+8,none⟩) hbl).trans z8;have hkb:=zR_ uN N j;have hkc:=zR_ uN N (j+1);have HK2:Hid (sm uN (N.take (j+1))=sm uN (N.take j)+uN N[j]):=sm_take uN N j hlt;have hE:=(he j hlt').below hb;rw [e0] at hE;have hss:=hs j hlt;clear hcell hc e0 hlen he hs z0 z1 z2 z3 z4 z5 z6 z7 z8;clear hlt';obtain⟨kj,HKJ⟩:∃kj:Int,Hid (k+(sm uN (N.take j):Nat)=kj):=⟨_,rfl⟩;rw [HKJ.out] at hc0 hc1 hc2 hc3 hc4 hc5 hc6 hc7 hc8 hE ⊢;have hk1:1≤kj:=by have:=HKJ.out;omega
   have hk2:kj≤40000000:=by have:=HKJ.out;omega
   have HK3:Hid (k+(sm uN (N.take (j+1)):Nat)=kj+(uN N[j]:Nat)):=by have:=HKJ.out;have:=HK2.out;show _=_;omega
   clear HK2 HKJ hkb hkc;generalize N[j]=s at*;have hz:=hb.size;have hbW:b<wr.heap.size:=by omega
   obtain⟨⟨id,pe,te,vo,co,ro,log,vs,mt⟩,la,lc,va,vc,ma,mc⟩:=s;obtain⟨z1,z2,z3⟩:=hss;dsimp only [mkNv] at hc0 hc1 hc2 hc3 hc4 hc5 hc6 hc7 hc8 hE z1 z2 z3;obtain⟨E1,E2,E3⟩:=hE;dsimp only at E1 E2 E3;rw [zC_] at E1 hc4;rw [zS_] at E2 E3 hc7 hc8;have HU:Hid ((uN ⟨⟨id,pe,te,vo,co,ro,log,vs,mt⟩,la,lc,va,vc,ma,mc⟩:Int)=6+2*(log.length:Int)+(vs.length:Int)+(mt.length:Int)):=by show _=_;simp [uN]
   have K1:=heldEntryS_at _ log.length (kj+1+1+1+1) wr E1 z1 (by omega) (by omega);have K2:=fun W (h:Below wr.heap.size wr W)=>heldIntS_il _ vs.length (kj+1+1+1+1+2*(log.length:Int)+1+1) W (E2.below h) z2 (by omega) (by omega);have K3:=fun W (h:Below wr.heap.size wr W)=>heldIntS_il _ mt.length (kj+1+1+1+1+2*(log.length:Int)+1+1+(vs.length:Int)) W (E3.below h) z3 (by omega) (by omega);have q1:¬kj+1+1+1+1+2*(log.length:Int)<0:=by omega
   have q2:¬kj+1+1+1+1+2*(log.length:Int)+1+1+(vs.length:Int)<0:=by omega
   have q3:¬kj+1+1+1+1+2*(log.length:Int)+1+1+(vs.length:Int)+(mt.length:Int)<0:=by omega
   clear E1 E2 E3;go_wp2_with fail;refine K1.mono ?_;rintro e w1 ⟨rfl,hb1⟩;replace hc5:=(hb1.cell (p:=⟨b,off+j*9+5,none⟩) hbW).trans hc5;replace hc6:=(hb1.cell (p:=⟨b,off+j*9+6,none⟩) hbW).trans hc6;replace hc7:=(hb1.cell (p:=⟨b,off+j*9+7,none⟩) hbW).trans hc7;replace hc8:=(hb1.cell (p:=⟨b,off+j*9+8,none⟩) hbW).trans hc8;have hB1:=hb.trans (hb1.mono hz);have hbW1:b<w1.heap.size:=by have:=hb1.size;omega
   clear K1 hc0 hc1 hc2 hc3 hc4 hb;have L2:=K2 _ hb1;have L3:=K3 _ hb1;clear K2 K3 hb1;go_wp2_with fail;refine L2.mono ?_;rintro e w2 ⟨rfl,hw⟩;subst hw;clear L2;go_wp2_with fail;refine L3.mono ?_;rintro e w3 ⟨rfl,hw⟩;subst hw;clear L3;have HR:Hid (kj+1+1+1+1+2*(log.length:Int)+1+1+(vs.length:Int)+(mt.length:Int)=k+(sm uN (N.take (j+1)):Nat)):=by have:=HK3.out;have:=HU.out;show _=_;omega
   clear HK3 HU;go_wp2;go_roundw
   case rel=>exact⟨j+1,by omega,by go_num,by rw [←HR.out],hB1⟩
   case measure=>simp [intOf];omega
  ·obtain rfl:j=N.length:=by omega
   rw [List.take_length];clear hc he hs;go_wp2;go_ret;exact⟨rfl,hb⟩
theorem heldMsgsS_any (v:Value) (M:List Mv) (k:Int) (w:World) (hv:MW w v (mkL mkMv uM k M)) (he:∀i (h:i<(mkL mkMv uM k M).length),ME w (mkL mkMv uM k M)[i]) (hn:M.length≤1048576) (hs:∀i (h:i<M.length),M[i].q.es.length≤1048576) (h1:1≤k) (h2:k+(sm uM M:Nat)≤40000000):
  Calls Tryz.prog 61 #[v,k] w fun e w'=>e= .returned (.int .i64 (k+(sm uM M:Nat)))∧Below w.heap.size w w':=by
 have hlen:=zH_ mkMv uM k M;obtain⟨a,cap,rfl,hc⟩:=hv;rw [hlen];go_enter Tryz.func61,Tryz.ntmps61;go_wp2
 go_loopw [1,5] (fun t i wr=>∃j:Nat,j≤M.length∧i= .int .i64 j∧t= .int .i64 (k+(sm uM (M.take j):Nat))∧Below w.heap.size w wr) (fun _ i _=>M.length-(intOf i).toNat)
 case atStart=>exact⟨0,Nat.zero_le _,rfl,by simp [sm],Below.refl _ _⟩
 case round=>
  obtain⟨j,hj,rfl,rfl,hb⟩:=hrel;by_cases hlt:j<M.length
  ·have hlt':j<(mkL mkMv uM k M).length:=by omega
   obtain⟨b,off,rfl,hbl,hcell⟩:=hc (by intro e;rw [e] at hlt';simp at hlt');obtain⟨z0,z1,z2,z3,z4,z5,z6,z7,z8⟩:=hcell j hlt';have e0:=mkL_at mkMv uM k M j hlt;rw [e0] at z0 z1 z2 z3 z4 z5 z6 z7 z8;have hc0:=(hb.cell (p:=⟨b,off+j*9,none⟩) hbl).trans z0;have hc1:=(hb.cell (p:=⟨b,off+j*9+1,none⟩) hbl).trans z1;have hc2:=(hb.cell (p:=⟨b,off+j*9+2,none⟩) hbl).trans z2;have hc3:=(hb.cell (p:=⟨b,off+j*9+3,none⟩) hbl).trans z3;have hc4:=(hb.cell (p:=⟨b,off+j*9+4,none⟩) hbl).trans z4;have hc5:=(hb.cell (p:=⟨b,off+j*9+5,none⟩) hbl).trans z5;have hc6:=(hb.cell (p:=⟨b,off+j*9+6,none⟩) hbl).trans z6;have hc7:=(hb.cell (p:=⟨b,off+j*9+7,none⟩) hbl).trans z7;have hc8:=(hb.cell (p:=⟨b,off+j*9+8,none⟩) hbl).trans z8;have hkb:=zR_ uM M j;have hkc:=zR_ uM M (j+1);have HK2:Hid (sm uM (M.take (j+1))=sm uM (M.take j)+uM M[j]):=sm_take uM M j hlt;have hE:=(he j hlt').below hb;rw [e0] at hE;have hss:=hs j hlt;clear hcell hc e0 hlen he hs z0 z1 z2 z3 z4 z5 z6 z7 z8;clear hlt';obtain⟨kj,HKJ⟩:∃kj:Int,Hid (k+(sm uM (M.take j):Nat)=kj):=⟨_,rfl⟩;rw [HKJ.out] at hc0 hc1 hc2 hc3 hc4 hc5 hc6 hc7 hc8 hE ⊢;have hk1:1≤kj:=by have:=HKJ.out;omega
   have hk2:kj≤40000000:=by have:=HKJ.out;omega
   have HK3:Hid (k+(sm uM (M.take (j+1)):Nat)=kj+(uM M[j]:Nat)):=by have:=HKJ.out;have:=HK2.out;show _=_;omega
   clear HK2 HKJ hkb hkc;generalize M[j]=s at*;have hz:=hb.size;have hbW:b<wr.heap.size:=by omega
   obtain⟨⟨ki,fr,dst,te,ix,be,co,ye,es⟩,ea,ec⟩:=s;dsimp only [mkMv] at hc0 hc1 hc2 hc3 hc4 hc5 hc6 hc7 hc8 hE hss;dsimp only [ME] at hE;rw [zC_] at hE hc6;have HU:Hid ((uM ⟨⟨ki,fr,dst,te,ix,be,co,ye,es⟩,ea,ec⟩:Int)=8+2*(es.length:Int)):=by show _=_;simp [uM]
   have K1:=heldEntryS_at _ es.length (kj+1+1+1+1+1+1) wr hE hss (by omega) (by omega);have NB:=fun W=>run_neq_b2 W ((kj+1+1+1+1+1+1+2*(es.length:Int)+1) % 3==0);have q1:¬kj+1+1+1+1+1+1+2*(es.length:Int)<0:=by omega
   clear hE;go_wp2_with fail;refine K1.mono ?_;rintro e w1 ⟨rfl,hb1⟩;replace hc7:=(hb1.cell (p:=⟨b,off+j*9+7,none⟩) hbW).trans hc7;replace hc8:=(hb1.cell (p:=⟨b,off+j*9+8,none⟩) hbW).trans hc8;have hB1:=hb.trans (hb1.mono hz);have hbW1:b<w1.heap.size:=by have:=hb1.size;omega
   clear K1 hc0 hc1 hc2 hc3 hc4 hc5 hc6 hb hb1;have HR:Hid (kj+1+1+1+1+1+1+2*(es.length:Int)+1+1=k+(sm uM (M.take (j+1)):Nat)):=by have:=HK3.out;have:=HU.out;show _=_;omega
   clear HK3 HU;go_wp2;go_roundw
   case rel=>exact⟨j+1,by omega,by go_num,by rw [←HR.out],hB1⟩
   case measure=>simp [intOf];omega
  ·obtain rfl:j=M.length:=by omega
   rw [List.take_length];clear hc he hs;go_wp2;go_ret;exact⟨rfl,hb⟩
theorem heldLeadS_any (v:Value) (L:List Ld) (k:Int) (w:World) (hv:LW w v (mkL mkLd uL k L)) (hn:L.length≤1048576) (h1:1≤k) (h2:k+(sm uL L:Nat)≤40000000):
  Calls Tryz.prog 62 #[v,k] w fun e w'=>e= .returned (.int .i64 (k+(sm uL L:Nat)))∧Below w.heap.size w w':=by
 have hlen:=zH_ mkLd uL k L;obtain⟨a,cap,rfl,hc⟩:=hv;rw [hlen];go_enter Tryz.func62,Tryz.ntmps62;go_wp2
 go_loopw [1,5] (fun t i wr=>∃j:Nat,j≤L.length∧i= .int .i64 j∧t= .int .i64 (k+(sm uL (L.take j):Nat))∧Below w.heap.size w wr) (fun _ i _=>L.length-(intOf i).toNat)
 case atStart=>exact⟨0,Nat.zero_le _,rfl,by simp [sm],Below.refl _ _⟩
 case round=>
  obtain⟨j,hj,rfl,rfl,hb⟩:=hrel;by_cases hlt:j<L.length
  ·have hlt':j<(mkL mkLd uL k L).length:=by omega
   obtain⟨b,off,rfl,hbl,hcell⟩:=hc (by intro e;rw [e] at hlt';simp at hlt');obtain⟨z0,z1⟩:=hcell j hlt';have e0:=mkL_at mkLd uL k L j hlt;rw [e0] at z0 z1;have hc0:=(hb.cell (p:=⟨b,off+j*2,none⟩) hbl).trans z0;have hc1:=(hb.cell (p:=⟨b,off+j*2+1,none⟩) hbl).trans z1;have hkb:=zR_ uL L j;have hkc:=zR_ uL L (j+1);have HK2:Hid (sm uL (L.take (j+1))=sm uL (L.take j)+uL L[j]):=sm_take uL L j hlt;clear hcell hc e0 hlen z0 z1;clear hlt';obtain⟨kj,HKJ⟩:∃kj:Int,Hid (k+(sm uL (L.take j):Nat)=kj):=⟨_,rfl⟩;rw [HKJ.out] at hc0 hc1 ⊢;have hk1:1≤kj:=by have:=HKJ.out;omega
   have hk2:kj≤40000000:=by have:=HKJ.out;omega
   have HK3:Hid (k+(sm uL (L.take (j+1)):Nat)=kj+(uL L[j]:Nat)):=by have:=HKJ.out;have:=HK2.out;show _=_;omega
   clear HK2 HKJ hkb hkc;generalize L[j]=s at*;have hz:=hb.size;have hbW:b<wr.heap.size:=by omega
   dsimp only [mkLd] at hc0 hc1;have HR:Hid (kj+1+1=k+(sm uL (L.take (j+1)):Nat)):=by have:=HK3.out;simp only [uL] at this;show _=_;omega
   clear HK3;go_wp2;go_roundw
   case rel=>exact⟨j+1,by omega,by go_num,by rw [←HR.out],hb⟩
   case measure=>simp [intOf];omega
  ·obtain rfl:j=L.length:=by omega
   rw [List.take_length];clear hc;go_wp2;go_ret;exact⟨rfl,hb⟩
theorem heldCluster_any (vn vm vl:Value) (N:List Nv) (M:List Mv) (L:List Ld) (k:Int) (w:World) (h:CR w vn vm vl (mkL mkNv uN k N) (mkL mkMv uM (k+(sm uN N:Nat)) M) (mkL mkLd uL (k+(sm uN N:Nat)+(sm uM M:Nat)) L)) (hs:CS N M L) (h1:1≤k) (h2:k+(uC N M L:Nat)≤40000000):
  Calls Tryz.prog 28 #[.agg #[vn,vm,vl],k] w fun e w'=>e= .returned (.int .i64 (k+(uC N M L:Nat)))∧Below w.heap.size w w':=by
 have hB:=zb_ w (.cells #[vn,vm,vl] 30);have X:=Box.new w #[vn,vm,vl] 30;unfold uC at h2;rw [show k+(uC N M L:Nat)=k+(sm uN N:Nat)+(sm uM M:Nat)+(sm uL L:Nat) from by unfold uC;omega];have K1:=heldNodeS_any vn N k _ (h.below hB).n (h.below hB).ne hs.n hs.ne h1 (by omega);have K2:=fun W (hb:Below w.heap.size w W)=>heldMsgsS_any vm M (k+(sm uN N:Nat)) W (h.below hb).m (h.below hb).me hs.m hs.me (by omega) (by omega);have K3:=fun W (hb:Below w.heap.size w W)=>heldLeadS_any vl L (k+(sm uN N:Nat)+(sm uM M:Nat)) W (h.below hb).l hs.l (by omega) (by omega);obtain⟨⟨na,nc,rfl⟩,⟨xa,xc,rfl⟩,ya,yc,rfl⟩:=h.shapes;have q1:¬k+(sm uN N:Nat)<0:=by omega
 have q2:¬k+(sm uN N:Nat)+(sm uM M:Nat)<0:=by omega
 have q3:¬k+(sm uN N:Nat)+(sm uM M:Nat)+(sm uL L:Nat)<0:=by omega
 clear h hs;generalize (mkL mkNv uN k N).length=ln at*;generalize (mkL mkMv uM (k+(sm uN N:Nat)) M).length=lm at*;generalize (mkL mkLd uL (k+(sm uN N:Nat)+(sm uM M:Nat)) L).length=ll at*;generalize sm uN N=s1 at*;generalize sm uM M=s2 at*;generalize sm uL L=s3 at*;go_enter Tryz.func28,Tryz.ntmps28;go_wp2_with fail;refine K1.mono ?_;rintro e w1 ⟨rfl,hb⟩;replace hB:=za_ hB hb;replace X:=X.below hb;clear hb K1;obtain⟨hxl,x0,x1,x2⟩:=X.c3;go_wp2_with fail;refine (K2 _ hB).mono ?_;rintro e w2 ⟨rfl,hb⟩;replace hB:=za_ hB hb;replace X:=X.below hb;clear hb K2 hxl x0 x1 x2;obtain⟨hxl,x0,x1,x2⟩:=X.c3;go_wp2_with fail;refine (K3 _ hB).mono ?_;rintro e w3 ⟨rfl,hb⟩;replace hB:=za_ hB hb;clear hb K3 hxl x0 x1 x2 X;go_wp2;go_ret;exact⟨rfl,hB⟩
end Go.Proofs.YtapfhhmimkkhnaaGreat
