/-
  Clusters that are the same: eqRaftNodeS, eqRaftMsgS, eqLeadS, eqCluster.
  A cluster made of the law's own: toCluster.
  A message is good: the specification's side.
-/
import Derived.Test.YtapfhhmimkkhnaaGreatCAToCCm
import Derived.Test.YtapfhhmimkkhnaaGreatM2bToH0
namespace Go.Proofs.YtapfhhmimkkhnaaGreat
open Go.RowKit Go.Maps
set_option linter.unusedVariables false
set_option maxRecDepth 100000
set_option maxHeartbeats 8000000
theorem eqLead_same (t n:Int) (w:World):Calls Tryz.prog 102 #[.agg #[t,n],.agg #[t,n]] w fun e w'=>e= .returned (.bool true)∧Below w.heap.size w w':=by
 go_enter Tryz.func102,Tryz.ntmps102;go_wp2;go_ret;exact⟨rfl,below2 _ _ _⟩
theorem eqNodeS_same (u v:Value) (l l':List Nv) (w:World) (hu:NW w u l) (hv:NW w v l') (he:∀i (h:i<l.length),NE w l[i]) (he':∀i (h:i<l'.length),NE w l'[i]) (hm:l.map Nv.n=l'.map Nv.n) (hn:l.length≤1048576) (hs:∀i (h:i<l.length),l[i].n.log.length≤1048576∧l[i].n.vs.length≤1048576∧l[i].n.mt.length≤1048576):
  Calls Tryz.prog 52 #[u,v] w fun e w'=>e= .returned (.bool true)∧Below w.heap.size w w':=by
 have hll:l'.length=l.length:=by have:=congrArg List.length hm;simpa using this.symm
 obtain⟨a,cap,rfl,hc⟩:=hu;obtain⟨a',cap',rfl,hc'⟩:=hv;rw [hll];go_enter Tryz.func52,Tryz.ntmps52;go_wp2
 go_loopw [5] (fun i wr=>∃k:Nat,k≤l.length∧i= .int .i64 k∧Below w.heap.size w wr) (fun i _=>l.length-(intOf i).toNat)
 case atStart=>exact⟨0,Nat.zero_le _,rfl,Below.refl _ _⟩
 case round=>
  obtain⟨k,hk,rfl,hb⟩:=hrel;by_cases hlt:k<l.length
  ·have hlt':k<l'.length:=by omega
   obtain⟨b,off,rfl,hbl,hcell⟩:=hc (by intro e;simp [e] at hlt);obtain⟨b',off',rfl,hbl',hcell'⟩:=hc' (by intro e;simp [e] at hlt');obtain⟨z0,z1,z2,z3,z4,z5,z6,z7,z8⟩:=hcell k hlt;obtain⟨y0,y1,y2,y3,y4,y5,y6,y7,y8⟩:=hcell' k hlt';have hc0:=(hb.cell (p:=⟨b,off+k*9,none⟩) hbl).trans z0;have hd0:=(hb.cell (p:=⟨b',off'+k*9,none⟩) hbl').trans y0;have hc1:=(hb.cell (p:=⟨b,off+k*9+1,none⟩) hbl).trans z1;have hd1:=(hb.cell (p:=⟨b',off'+k*9+1,none⟩) hbl').trans y1;have hc2:=(hb.cell (p:=⟨b,off+k*9+2,none⟩) hbl).trans z2;have hd2:=(hb.cell (p:=⟨b',off'+k*9+2,none⟩) hbl').trans y2;have hc3:=(hb.cell (p:=⟨b,off+k*9+3,none⟩) hbl).trans z3;have hd3:=(hb.cell (p:=⟨b',off'+k*9+3,none⟩) hbl').trans y3;have hc4:=(hb.cell (p:=⟨b,off+k*9+4,none⟩) hbl).trans z4;have hd4:=(hb.cell (p:=⟨b',off'+k*9+4,none⟩) hbl').trans y4;have hc5:=(hb.cell (p:=⟨b,off+k*9+5,none⟩) hbl).trans z5;have hd5:=(hb.cell (p:=⟨b',off'+k*9+5,none⟩) hbl').trans y5;have hc6:=(hb.cell (p:=⟨b,off+k*9+6,none⟩) hbl).trans z6;have hd6:=(hb.cell (p:=⟨b',off'+k*9+6,none⟩) hbl').trans y6;have hc7:=(hb.cell (p:=⟨b,off+k*9+7,none⟩) hbl).trans z7;have hd7:=(hb.cell (p:=⟨b',off'+k*9+7,none⟩) hbl').trans y7;have hc8:=(hb.cell (p:=⟨b,off+k*9+8,none⟩) hbl).trans z8;have hd8:=(hb.cell (p:=⟨b',off'+k*9+8,none⟩) hbl').trans y8;have hE:=(he k hlt).below hb;have hE':=(he' k hlt').below hb;have hss:=hs k hlt;have hq:l[k].n=l'[k].n:=by have:=congrArg (fun t=>t[k]?) hm;simpa [hlt,hlt'] using this
   clear hcell hc hcell' hc' z0 y0 z1 y1 z2 y2 z3 y3 z4 y4 z5 y5 z6 y6 z7 y7 z8 y8 he he' hs hm hll;generalize l[k]=s at*;generalize l'[k]=s' at*;obtain⟨⟨id,pe,te,vo,co,ro,log,vs,mt⟩,la,lc,va,vc,ma,mc⟩:=s;obtain⟨n2,la',lc',va',vc',ma',mc'⟩:=s';dsimp only at*;subst hq;have hz:=hb.size;have KE:=fun W (h:Below wr.heap.size wr W)=>eqNode_same id pe te vo co ro _ _ _ _ _ _ log vs mt W (hE.1.below h) (hE.2.1.below h) (hE.2.2.below h) (hE'.1.below h) (hE'.2.1.below h) (hE'.2.2.below h) hss.1 hss.2.1 hss.2.2;clear hE hE' hss
   try dsimp only at*
   clear hlt';go_wp2_with fail
   go_region_held3 (fun w'=>(w'.cell? ⟨b,off+k*9,none⟩=some (.int .i64 id)∧w'.cell? ⟨b,off+k*9+1,none⟩=some (.int .i64 pe)∧w'.cell? ⟨b,off+k*9+2,none⟩=some (.int .i64 te)∧w'.cell? ⟨b,off+k*9+3,none⟩=some (.int .i64 vo)∧w'.cell? ⟨b,off+k*9+4,none⟩=some (.slice la log.length lc)∧w'.cell? ⟨b,off+k*9+5,none⟩=some (.int .i64 co)∧w'.cell? ⟨b,off+k*9+6,none⟩=some (.int .i64 ro)∧w'.cell? ⟨b,off+k*9+7,none⟩=some (.slice va vs.length vc)∧w'.cell? ⟨b,off+k*9+8,none⟩=some (.slice ma mt.length mc))∧w'.cell? ⟨b',off'+k*9,none⟩=some (.int .i64 id)∧w'.cell? ⟨b',off'+k*9+1,none⟩=some (.int .i64 pe)∧w'.cell? ⟨b',off'+k*9+2,none⟩=some (.int .i64 te)∧w'.cell? ⟨b',off'+k*9+3,none⟩=some (.int .i64 vo)∧w'.cell? ⟨b',off'+k*9+4,none⟩=some (.slice la' log.length lc')∧w'.cell? ⟨b',off'+k*9+5,none⟩=some (.int .i64 co)∧w'.cell? ⟨b',off'+k*9+6,none⟩=some (.int .i64 ro)∧w'.cell? ⟨b',off'+k*9+7,none⟩=some (.slice va' vs.length vc')∧w'.cell? ⟨b',off'+k*9+8,none⟩=some (.slice ma' mt.length mc')) (go_keep)
    (first | (go_at_call 100;refine (KE _ (Below.refl _ _).drew).mono ?_;rintro e w1 ⟨rfl,hb1'⟩;have hb1:=below_undrew hb1';have hbl2:b<wr.heap.size:=(by omega);have hbl3:b'<wr.heap.size:=(by omega);replace hc0:=(hb1.cell (p:=⟨b,off+k*9,none⟩) hbl2).trans hc0;replace hc1:=(hb1.cell (p:=⟨b,off+k*9+1,none⟩) hbl2).trans hc1;replace hc2:=(hb1.cell (p:=⟨b,off+k*9+2,none⟩) hbl2).trans hc2;replace hc3:=(hb1.cell (p:=⟨b,off+k*9+3,none⟩) hbl2).trans hc3;replace hc4:=(hb1.cell (p:=⟨b,off+k*9+4,none⟩) hbl2).trans hc4;replace hc5:=(hb1.cell (p:=⟨b,off+k*9+5,none⟩) hbl2).trans hc5;replace hc6:=(hb1.cell (p:=⟨b,off+k*9+6,none⟩) hbl2).trans hc6;replace hc7:=(hb1.cell (p:=⟨b,off+k*9+7,none⟩) hbl2).trans hc7;replace hc8:=(hb1.cell (p:=⟨b,off+k*9+8,none⟩) hbl2).trans hc8;replace hd0:=(hb1.cell (p:=⟨b',off'+k*9,none⟩) hbl3).trans hd0;replace hd1:=(hb1.cell (p:=⟨b',off'+k*9+1,none⟩) hbl3).trans hd1;replace hd2:=(hb1.cell (p:=⟨b',off'+k*9+2,none⟩) hbl3).trans hd2;replace hd3:=(hb1.cell (p:=⟨b',off'+k*9+3,none⟩) hbl3).trans hd3;replace hd4:=(hb1.cell (p:=⟨b',off'+k*9+4,none⟩) hbl3).trans hd4;replace hd5:=(hb1.cell (p:=⟨b',off'+k*9+5,none⟩) hbl3).trans hd5;replace hd6:=(hb1.cell (p:=⟨b',off'+k*9+6,none⟩) hbl3).trans hd6;replace hd7:=(hb1.cell (p:=⟨b',off'+k*9+7,none⟩) hbl3).trans hd7;replace hd8:=(hb1.cell (p:=⟨b',off'+k*9+8,none⟩) hbl3).trans hd8))
   go_wp2;go_roundw
   case rel=>exact⟨k+1,by omega,by go_num,hb.trans (hb1.mono hz)⟩
   case measure=>simp [intOf];omega
  ·clear hc hc' he he' hs hm hll;go_wp2;go_ret;exact⟨rfl,hb⟩
theorem eqMsgsS_same (u v:Value) (l l':List Mv) (w:World) (hu:MW w u l) (hv:MW w v l') (he:∀i (h:i<l.length),ME w l[i]) (he':∀i (h:i<l'.length),ME w l'[i]) (hm:l.map Mv.q=l'.map Mv.q) (hn:l.length≤1048576) (hs:∀i (h:i<l.length),l[i].q.es.length≤1048576):
  Calls Tryz.prog 53 #[u,v] w fun e w'=>e= .returned (.bool true)∧Below w.heap.size w w':=by
 have hll:l'.length=l.length:=by have:=congrArg List.length hm;simpa using this.symm
 obtain⟨a,cap,rfl,hc⟩:=hu;obtain⟨a',cap',rfl,hc'⟩:=hv;rw [hll];go_enter Tryz.func53,Tryz.ntmps53;go_wp2
 go_loopw [5] (fun i wr=>∃k:Nat,k≤l.length∧i= .int .i64 k∧Below w.heap.size w wr) (fun i _=>l.length-(intOf i).toNat)
 case atStart=>exact⟨0,Nat.zero_le _,rfl,Below.refl _ _⟩
 case round=>
  obtain⟨k,hk,rfl,hb⟩:=hrel;by_cases hlt:k<l.length
  ·have hlt':k<l'.length:=by omega
   obtain⟨b,off,rfl,hbl,hcell⟩:=hc (by intro e;simp [e] at hlt);obtain⟨b',off',rfl,hbl',hcell'⟩:=hc' (by intro e;simp [e] at hlt');obtain⟨z0,z1,z2,z3,z4,z5,z6,z7,z8⟩:=hcell k hlt;obtain⟨y0,y1,y2,y3,y4,y5,y6,y7,y8⟩:=hcell' k hlt';have hc0:=(hb.cell (p:=⟨b,off+k*9,none⟩) hbl).trans z0;have hd0:=(hb.cell (p:=⟨b',off'+k*9,none⟩) hbl').trans y0;have hc1:=(hb.cell (p:=⟨b,off+k*9+1,none⟩) hbl).trans z1;have hd1:=(hb.cell (p:=⟨b',off'+k*9+1,none⟩) hbl').trans y1;have hc2:=(hb.cell (p:=⟨b,off+k*9+2,none⟩) hbl).trans z2;have hd2:=(hb.cell (p:=⟨b',off'+k*9+2,none⟩) hbl').trans y2;have hc3:=(hb.cell (p:=⟨b,off+k*9+3,none⟩) hbl).trans z3;have hd3:=(hb.cell (p:=⟨b',off'+k*9+3,none⟩) hbl').trans y3;have hc4:=(hb.cell (p:=⟨b,off+k*9+4,none⟩) hbl).trans z4;have hd4:=(hb.cell (p:=⟨b',off'+k*9+4,none⟩) hbl').trans y4;have hc5:=(hb.cell (p:=⟨b,off+k*9+5,none⟩) hbl).trans z5;have hd5:=(hb.cell (p:=⟨b',off'+k*9+5,none⟩) hbl').trans y5;have hc6:=(hb.cell (p:=⟨b,off+k*9+6,none⟩) hbl).trans z6;have hd6:=(hb.cell (p:=⟨b',off'+k*9+6,none⟩) hbl').trans y6;have hc7:=(hb.cell (p:=⟨b,off+k*9+7,none⟩) hbl).trans z7;have hd7:=(hb.cell (p:=⟨b',off'+k*9+7,none⟩) hbl').trans y7;have hc8:=(hb.cell (p:=⟨b,off+k*9+8,none⟩) hbl).trans z8;have hd8:=(hb.cell (p:=⟨b',off'+k*9+8,none⟩) hbl').trans y8;have hE:=(he k hlt).below hb;have hE':=(he' k hlt').below hb;have hss:=hs k hlt;have hq:l[k].q=l'[k].q:=by have:=congrArg (fun t=>t[k]?) hm;simpa [hlt,hlt'] using this
   clear hcell hc hcell' hc' z0 y0 z1 y1 z2 y2 z3 y3 z4 y4 z5 y5 z6 y6 z7 y7 z8 y8 he he' hs hm hll;generalize l[k]=s at*;generalize l'[k]=s' at*;obtain⟨⟨ki,fr,dst,te,ix,be,co,ye,es⟩,ea,ec⟩:=s;obtain⟨q2,ea',ec'⟩:=s';dsimp only at*;subst hq;have hz:=hb.size;have KE:=fun W (h:Below wr.heap.size wr W)=>eqMsg_same ki fr dst te ix be co ye _ _ es W (ER.below hE h) (ER.below hE' h) hss;clear hE hE' hss
   try dsimp only at*
   clear hlt';go_wp2_with fail
   go_region_held3 (fun w'=>(w'.cell? ⟨b,off+k*9,none⟩=some (.int .i64 ki)∧w'.cell? ⟨b,off+k*9+1,none⟩=some (.int .i64 fr)∧w'.cell? ⟨b,off+k*9+2,none⟩=some (.int .i64 dst)∧w'.cell? ⟨b,off+k*9+3,none⟩=some (.int .i64 te)∧w'.cell? ⟨b,off+k*9+4,none⟩=some (.int .i64 ix)∧w'.cell? ⟨b,off+k*9+5,none⟩=some (.int .i64 be)∧w'.cell? ⟨b,off+k*9+6,none⟩=some (.slice ea es.length ec)∧w'.cell? ⟨b,off+k*9+7,none⟩=some (.int .i64 co)∧w'.cell? ⟨b,off+k*9+8,none⟩=some (.bool ye))∧w'.cell? ⟨b',off'+k*9,none⟩=some (.int .i64 ki)∧w'.cell? ⟨b',off'+k*9+1,none⟩=some (.int .i64 fr)∧w'.cell? ⟨b',off'+k*9+2,none⟩=some (.int .i64 dst)∧w'.cell? ⟨b',off'+k*9+3,none⟩=some (.int .i64 te)∧w'.cell? ⟨b',off'+k*9+4,none⟩=some (.int .i64 ix)∧w'.cell? ⟨b',off'+k*9+5,none⟩=some (.int .i64 be)∧w'.cell? ⟨b',off'+k*9+6,none⟩=some (.slice ea' es.length ec')∧w'.cell? ⟨b',off'+k*9+7,none⟩=some (.int .i64 co)∧w'.cell? ⟨b',off'+k*9+8,none⟩=some (.bool ye)) (go_keep)
    (first | (go_at_call 101;refine (KE _ (Below.refl _ _).drew).mono ?_;rintro e w1 ⟨rfl,hb1'⟩;have hb1:=below_undrew hb1';have hbl2:b<wr.heap.size:=(by omega);have hbl3:b'<wr.heap.size:=(by omega);replace hc0:=(hb1.cell (p:=⟨b,off+k*9,none⟩) hbl2).trans hc0;replace hc1:=(hb1.cell (p:=⟨b,off+k*9+1,none⟩) hbl2).trans hc1;replace hc2:=(hb1.cell (p:=⟨b,off+k*9+2,none⟩) hbl2).trans hc2;replace hc3:=(hb1.cell (p:=⟨b,off+k*9+3,none⟩) hbl2).trans hc3;replace hc4:=(hb1.cell (p:=⟨b,off+k*9+4,none⟩) hbl2).trans hc4;replace hc5:=(hb1.cell (p:=⟨b,off+k*9+5,none⟩) hbl2).trans hc5;replace hc6:=(hb1.cell (p:=⟨b,off+k*9+6,none⟩) hbl2).trans hc6;replace hc7:=(hb1.cell (p:=⟨b,off+k*9+7,none⟩) hbl2).trans hc7;replace hc8:=(hb1.cell (p:=⟨b,off+k*9+8,none⟩) hbl2).trans hc8;replace hd0:=(hb1.cell (p:=⟨b',off'+k*9,none⟩) hbl3).trans hd0;replace hd1:=(hb1.cell (p:=⟨b',off'+k*9+1,none⟩) hbl3).trans hd1;replace hd2:=(hb1.cell (p:=⟨b',off'+k*9+2,none⟩) hbl3).trans hd2;replace hd3:=(hb1.cell (p:=⟨b',off'+k*9+3,none⟩) hbl3).trans hd3;replace hd4:=(hb1.cell (p:=⟨b',off'+k*9+4,none⟩) hbl3).trans hd4;replace hd5:=(hb1.cell (p:=⟨b',off'+k*9+5,none⟩) hbl3).trans hd5;replace hd6:=(hb1.cell (p:=⟨b',off'+k*9+6,none⟩) hbl3).trans hd6;replace hd7:=(hb1.cell (p:=⟨b',off'+k*9+7,none⟩) hbl3).trans hd7;replace hd8:=(hb1.cell (p:=⟨b',off'+k*9+8,none⟩) hbl3).trans hd8))
   go_wp2;go_roundw
   case rel=>exact⟨k+1,by omega,by go_num,hb.trans (hb1.mono hz)⟩
   case measure=>simp [intOf];omega
  ·clear hc hc' he he' hs hm hll;go_wp2;go_ret;exact⟨rfl,hb⟩
theorem eqLeadS_same (u v:Value) (l:List Ld) (w:World) (hu:LW w u l) (hv:LW w v l) (hn:l.length≤1048576):
  Calls Tryz.prog 54 #[u,v] w fun e w'=>e= .returned (.bool true)∧Below w.heap.size w w':=by
 obtain⟨a,cap,rfl,hc⟩:=hu;obtain⟨a',cap',rfl,hc'⟩:=hv;go_enter Tryz.func54,Tryz.ntmps54;go_wp2
 go_loopw [5] (fun i wr=>∃k:Nat,k≤l.length∧i= .int .i64 k∧Below w.heap.size w wr) (fun i _=>l.length-(intOf i).toNat)
 case atStart=>exact⟨0,Nat.zero_le _,rfl,Below.refl _ _⟩
 case round=>
  obtain⟨k,hk,rfl,hb⟩:=hrel;by_cases hlt:k<l.length
  ·have hlt':=hlt;obtain⟨b,off,rfl,hbl,hcell⟩:=hc (by intro e;simp [e] at hlt);obtain⟨b',off',rfl,hbl',hcell'⟩:=hc' (by intro e;simp [e] at hlt');obtain⟨z0,z1⟩:=hcell k hlt;obtain⟨y0,y1⟩:=hcell' k hlt';have hc0:=(hb.cell (p:=⟨b,off+k*2,none⟩) hbl).trans z0;have hd0:=(hb.cell (p:=⟨b',off'+k*2,none⟩) hbl').trans y0;have hc1:=(hb.cell (p:=⟨b,off+k*2+1,none⟩) hbl).trans z1;have hd1:=(hb.cell (p:=⟨b',off'+k*2+1,none⟩) hbl').trans y1;clear hcell hc hcell' hc' z0 y0 z1 y1;generalize l[k]=s at*;obtain⟨t,n⟩:=s;dsimp only at*;have hz:=hb.size;have KE:=fun W (h:Below wr.heap.size wr W)=>eqLead_same t n W
   try dsimp only at*
   clear hlt';go_wp2_with fail
   go_region_held3 (fun w'=>(w'.cell? ⟨b,off+k*2,none⟩=some (.int .i64 t)∧w'.cell? ⟨b,off+k*2+1,none⟩=some (.int .i64 n))∧w'.cell? ⟨b',off'+k*2,none⟩=some (.int .i64 t)∧w'.cell? ⟨b',off'+k*2+1,none⟩=some (.int .i64 n)) (go_keep)
    (first | (go_at_call 102;refine (KE _ (Below.refl _ _).drew).mono ?_;rintro e w1 ⟨rfl,hb1'⟩;have hb1:=below_undrew hb1';have hbl2:b<wr.heap.size:=(by omega);have hbl3:b'<wr.heap.size:=(by omega);replace hc0:=(hb1.cell (p:=⟨b,off+k*2,none⟩) hbl2).trans hc0;replace hc1:=(hb1.cell (p:=⟨b,off+k*2+1,none⟩) hbl2).trans hc1;replace hd0:=(hb1.cell (p:=⟨b',off'+k*2,none⟩) hbl3).trans hd0;replace hd1:=(hb1.cell (p:=⟨b',off'+k*2+1,none⟩) hbl3).trans hd1))
   go_wp2;go_roundw
   case rel=>exact⟨k+1,by omega,by go_num,hb.trans (hb1.mono hz)⟩
   case measure=>simp [intOf];omega
  ·clear hc hc';go_wp2;go_ret;exact⟨rfl,hb⟩
structure CS (N:List Nv) (M:List Mv) (L:List Ld):Prop where
 n:N.length≤1048576
 m:M.length≤1048576
 l:L.length≤1048576
 ne:∀i (h:i<N.length),N[i].n.log.length≤1048576∧N[i].n.vs.length≤1048576∧N[i].n.mt.length≤1048576
 me:∀i (h:i<M.length),M[i].q.es.length≤1048576
 ns:∀i (h:i<N.length) j (h2:j<N[i].n.log.length),N[i].n.log[j].d.size≤1048576
 ms:∀i (h:i<M.length) j (h2:j<M[i].q.es.length),M[i].q.es[j].d.size≤1048576
theorem eqCluster_same (un um ul vn vm vl:Value) (N N':List Nv) (M M':List Mv) (L:List Ld) (w:World) (h:CR w un um ul N M L) (h':CR w vn vm vl N' M' L) (hn:N.map Nv.n=N'.map Nv.n) (hm:M.map Mv.q=M'.map Mv.q) (hs:CS N M L):
  Calls Tryz.prog 22 #[.agg #[un,um,ul],.agg #[vn,vm,vl]] w fun e w'=>e= .returned (.bool true)∧Below w.heap.size w w':=by
 obtain⟨W0,hW0,hB,X,Y,_⟩:=al2 w [un,um,ul] 30 [vn,vm,vl] 30;have K1:=eqNodeS_same un vn N N' W0 (h.below hB).n (h'.below hB).n (h.below hB).ne (h'.below hB).ne hn hs.n hs.ne;have K2:=fun W (hb:Below w.heap.size w W)=>eqMsgsS_same um vm M M' W (h.below hb).m (h'.below hb).m (h.below hb).me (h'.below hb).me hm hs.m hs.me;have K3:=fun W (hb:Below w.heap.size w W)=>eqLeadS_same ul vl L W (h.below hb).l (h'.below hb).l hs.l;obtain⟨⟨na,nc,rfl⟩,⟨ma,mc,rfl⟩,la,lc,rfl⟩:=h.shapes;obtain⟨⟨na',nc',rfl⟩,⟨ma',mc',rfl⟩,la',lc',rfl⟩:=h'.shapes;clear h h' hn hm hs;go_enter Tryz.func22,Tryz.ntmps22;go_wp2_with fail;rw [←hW0];clear hW0;refine K1.mono ?_;rintro e w1 ⟨rfl,hb⟩;replace hB:=za_ hB hb;replace X:=X.below hb;replace Y:=Y.below hb;clear hb K1;obtain⟨hxl,x0,x1,x2⟩:=X.c3;obtain⟨hyl,y0,y1,y2⟩:=Y.c3;go_wp2_with fail;refine (K2 _ hB).mono ?_;rintro e w2 ⟨rfl,hb⟩;replace hB:=za_ hB hb;replace X:=X.below hb;replace Y:=Y.below hb;clear hb K2 hxl x0 x1 x2 hyl y0 y1 y2;obtain⟨hxl,x0,x1,x2⟩:=X.c3;obtain⟨hyl,y0,y1,y2⟩:=Y.c3;go_wp2_with fail;refine (K3 _ hB).mono ?_;rintro e w3 ⟨rfl,hb⟩;replace hB:=za_ hB hb;clear hb K3 hxl x0 x1 x2 hyl y0 y1 y2 X Y;go_wp2;go_ret;exact⟨rfl,hB⟩
set_option maxHeartbeats 200000
structure OwnC (w:World) (lo hi:Nat) (vn vm vl:Value) (N:List Nv) (M:List Mv) (L:List Ld):Prop where
 n:w.ownsRow lo 42 9 vn N.length (zD_ N)
 m:w.ownsRow lo 80 9 vm M.length (zo_ M)
 l:w.ownsRow lo 34 2 vl L.length (yf_ L)
 cn:zp_ PN BN w lo hi N
 cm:zp_ PM BM w lo hi M
 ap:∀i j (h1:i<N.length) (h2:j<M.length) b,BN N[i] b→¬BM M[j] b
 bn:∀b,vn.ownBlock=some b→b<hi
 bm:∀b,vm.ownBlock=some b→b<hi
 bl:∀b,vl.ownBlock=some b→b<hi
theorem OwnC.below {w w':World} {lo hi:Nat} {vn vm vl:Value} {N:List Nv} {M:List Mv} {L:List Ld} (h:OwnC w lo hi vn vm vl N M L) (hb:Below w.heap.size w w'):OwnC w' lo hi vn vm vl N M L:=
 ⟨zd_ h.n hb,zd_ h.m hb,zd_ h.l hb,h.cn.belowN hb,h.cm.belowM hb,h.ap,h.bn,h.bm,h.bl⟩
theorem OwnC.chg {w w':World} {S:Nat→Prop} {lo hi:Nat} {vn vm vl:Value} {N:List Nv} {M:List Mv} {L:List Ld} (h:OwnC w lo hi vn vm vl N M L) (hc:Chg S w w') (hs:∀b,S b→b<lo∨hi≤b):OwnC w' lo hi vn vm vl N M L:=by
 have e1:=h.cn.ends;have e2:=h.cm.ends;refine⟨hc.owns h.n fun b hb hh=> ?_,hc.owns h.m fun b hb hh=> ?_,hc.owns h.l fun b hb hh=> ?_,h.cn.chgN hc fun b hb=> ?_,h.cm.chgM hc fun b hb=> ?_,h.ap,h.bn,h.bm,h.bl⟩
 ·have:=zh_ h.n b hb;have:=h.bn b hb;have:=hs b hh;omega
 ·have:=zh_ h.m b hb;have:=h.bm b hb;have:=hs b hh;omega
 ·have:=zh_ h.l b hb;have:=h.bl b hb;have:=hs b hh;omega
 ·have:=hs b hb;omega
 ·have:=hs b hb;omega
theorem OwnC.cr {w:World} {lo hi:Nat} {vn vm vl:Value} {N:List Nv} {M:List Mv} {L:List Ld} (h:OwnC w lo hi vn vm vl N M L):CR w vn vm vl N M L:=
 ⟨NW_of_owns h.n rfl,MW_of_owns h.m rfl,LW_of_owns h.l rfl,fun i hi'=>by obtain⟨_,_,q,_⟩:=h.cn.at i hi';exact PN.ne q,fun i hi'=>by obtain⟨_,_,q,_⟩:=h.cm.at i hi';exact PM.me q⟩
theorem OwnC.lohi {w:World} {lo hi:Nat} {vn vm vl:Value} {N:List Nv} {M:List Mv} {L:List Ld} (h:OwnC w lo hi vn vm vl N M L):lo≤hi:=h.cn.ends
theorem OwnC.shapes {w:World} {lo hi:Nat} {vn vm vl:Value} {N:List Nv} {M:List Mv} {L:List Ld} (h:OwnC w lo hi vn vm vl N M L):(∃a c,vn= .slice a N.length c)∧(∃a c,vm= .slice a M.length c)∧∃a c,vl= .slice a L.length c:=h.cr.shapes
def put3 (w:World) (b:Nat) (v0 v1 v2:Value):World:=((w.setCell ⟨b,0,none⟩ v0).setCell ⟨b,1,none⟩ v1).setCell ⟨b,2,none⟩ v2
theorem put3_chg (w:World) (b:Nat) (v0 v1 v2:Value):Chg (· =b) w (put3 w b v0 v1 v2):=
 Chg.setCell (S:=(· =b)) (Chg.setCell (S:=(· =b)) (Chg.setCell (S:=(· =b)) (Chg.refl _ _) rfl _) rfl _) rfl _
theorem put3_box {w:World} {b:Nat} {u0 u1 u2:Value} (h:Box w b [u0,u1,u2]) (v0 v1 v2:Value):Box (put3 w b v0 v1 v2) b [v0,v1,v2]:=
 ((h.set 0 v0 (by simp)).set 1 v1 (by simp)).set 2 v2 (by simp)
theorem zj_ (w:World) {b:Nat} {u0 u1 u2:Value} (h:Box w b [u0,u1,u2]) (v0 v1 v2:Value):∃W,W=put3 w b v0 v1 v2∧Chg (fun k=>k=b) w W∧Box W b [v0,v1,v2]:=⟨_,rfl,put3_chg ..,put3_box h ..⟩
end Go.Proofs.YtapfhhmimkkhnaaGreat
namespace Go.Proofs.YtapfhhmimkkhnaaGreat
open Go.RowKit
set_option linter.unusedVariables false
set_option maxRecDepth 100000
set_option maxHeartbeats 8000000
def restB (ki te ix be co:Int) (ye:Bool) (es:List En):Bool:=
 if ki=3 then !ye&&((gE te 0 es&&decide ((es.length:Int)≤60))&&decide (ix+(es.length:Int)≤60))
 else !carB es.length co&&(if ki=1 then !ye else if ki=2 then decide (ix=0)&&decide (be=0) else decide (ki=4)&&decide (be=0))
theorem goodM_spec (pe ki fr dst te ix be co:Int) (ye:Bool) (es:List En):goodM pe ki fr dst te ix be co ye es=
  (inB pe 1 7&&(!decide (fr=dst)&&(inB fr 0 (pe-1)&&(inB dst 0 (pe-1)&&(inB te 1 1000&&(inB ix 0 60&&(inB be 0 1000&&(inB co 0 60&&restB ki te ix be co ye es)))))))):=by
 unfold goodM restB;by_cases k1:ki=1
 ·subst k1;rw [kindB_1];unfold carB;generalize es.length=n;rw [Bool.eq_iff_iff]
  cases ye <;>simp [ya_,inB,isP] <;>omega
 by_cases k2:ki=2
 ·subst k2;rw [kindB_2];unfold carB;generalize es.length=n;rw [Bool.eq_iff_iff];simp [inB,isP];omega
 by_cases k3:ki=3
 ·subst k3;rw [kindB_3];unfold loadB;generalize es.length=n;generalize gE te 0 es=g;rw [Bool.eq_iff_iff]
  cases ye <;>cases g <;>simp [ya_,inB,isP] <;>omega
 by_cases k4:ki=4
 ·subst k4;rw [kindB_4];unfold carB;generalize es.length=n;rw [Bool.eq_iff_iff];simp [ya_,inB,isP];omega
 ·rw [kindB_x _ _ _ _ _ _ _ k1 k2 k3 k4];simp [k1,k2,k3,k4]
theorem restB_3 (te ix be co:Int) (ye:Bool) (es:List En):restB 3 te ix be co ye es=(!ye&&((gE te 0 es&&decide ((es.length:Int)≤60))&&decide (ix+(es.length:Int)≤60))):=by simp [restB]
theorem restB_1 (te ix be co:Int) (ye:Bool) (es:List En):restB 1 te ix be co ye es=(!carB es.length co&& !ye):=by simp [restB]
theorem restB_2 (te ix be co:Int) (ye:Bool) (es:List En):restB 2 te ix be co ye es=(!carB es.length co&&(decide (ix=0)&&decide (be=0))):=by simp [restB]
theorem restB_4 (te ix be co:Int) (ye:Bool) (es:List En):restB 4 te ix be co ye es=(!carB es.length co&&decide (be=0)):=by simp [restB]
theorem restB_x (ki te ix be co:Int) (ye:Bool) (es:List En) (h1:¬ki=1) (h2:¬ki=2) (h3:¬ki=3) (h4:¬ki=4):restB ki te ix be co ye es=false:=by simp [restB,h1,h2,h3,h4]
theorem specGoodM_any (pe ki fr dst te ix be co:Int) (ye:Bool) (ve:Value) (es:List En) (w:World) (he:ER w ve es) (ne:es.length≤1048576) (ns:∀i (h:i<es.length),es[i].d.size≤1048576):
  Calls Tryz.prog 41 #[.agg #[ki,fr,dst,te,ix,be,ve,co,ye],pe] w fun e w'=>e= .returned (.bool (goodM pe ki fr dst te ix be co ye es))∧Below w.heap.size w w':=by
 have hB:=zb_ w (.cells #[ki,fr,dst,te,ix,be,ve,co,ye] 80);have X:=Box.new w #[ki,fr,dst,te,ix,be,ve,co,ye] 80;have HO:Hid (goodM pe ki fr dst te ix be co ye es=(inB pe 1 7&&(!decide (fr=dst)&&(inB fr 0 (pe-1)&&(inB dst 0 (pe-1)&&(inB te 1 1000&&(inB ix 0 60&&(inB be 0 1000&&(inB co 0 60&&restB ki te ix be co ye es))))))))):=goodM_spec _ _ _ _ _ _ _ _ _ _;have KP:=fun W=>l11Peers_any pe W;have K1:=fun W=>zu_ fr 0 (pe-1) W;have K2:=fun W=>zu_ dst 0 (pe-1) W;have K3:=fun W=>zu_ te 1 1000 W;have K4:=fun W=>zu_ ix 0 60 W;have K5:=fun W=>zu_ be 0 1000 W;have K6:=fun W=>zu_ co 0 60 W;have KE:=l11Entries_any ve es te _ (he.below hB) ne ns;have C0:(carB es.length co=true∧(0<es.length∨(es.length=0∧¬co=0)))∨(carB es.length co=false∧es.length=0∧co=0):=by
  unfold carB;rcases Nat.eq_zero_or_pos es.length with h | h
  ·by_cases h2:co=0
   ·exact .inr ⟨by simp [h,h2],h,h2⟩
   ·exact .inl ⟨by simp [h2],.inr ⟨h,h2⟩⟩
  ·exact .inl ⟨by simp [List.length_pos_iff] at h ⊢;simp [h],.inl h⟩
 generalize goodM pe ki fr dst te ix be co ye es=R at*;generalize hb1:inB pe 1 7=b1 at*;generalize inB fr 0 (pe-1)=b2 at*;generalize inB dst 0 (pe-1)=b3 at*;generalize inB te 1 1000=b4 at*;generalize hb5:inB ix 0 60=b5 at*;generalize inB be 0 1000=b6 at*;generalize inB co 0 60=b7 at*;obtain⟨ea,ec,rfl,hec⟩:=he;clear hec ns;go_enter Tryz.func41,Tryz.ntmps41;go_wp2_with fail;refine (KP _).mono ?_;rintro e w1 ⟨rfl,hw⟩;subst hw;clear KP
 cases b1
 ·clear KE C0;go_wp2;go_ret;exact⟨by rw [HO.out];simp,hB⟩
 have pB:1≤pe∧pe≤7:=by simp [inB] at hb1;omega
 obtain⟨p1,p7⟩:=pB;clear hb1;by_cases c2:fr=dst
 ·subst c2;clear KE C0;go_wp2;go_ret;exact⟨by rw [HO.out];simp,hB⟩
 have c2b:(fr==dst)=false:=by simp [c2]
 go_wp2_with fail;refine (K1 _).mono ?_;rintro e w1 ⟨rfl,hw⟩;subst hw;clear K1
 cases b2
 ·clear KE C0;go_wp2;go_ret;exact⟨by rw [HO.out];simp,hB⟩
 go_wp2_with fail;refine (K2 _).mono ?_;rintro e w1 ⟨rfl,hw⟩;subst hw;clear K2
 cases b3
 ·clear KE C0;go_wp2;go_ret;exact⟨by rw [HO.out];simp,hB⟩
 go_wp2_with fail;refine (K3 _).mono ?_;rintro e w1 ⟨rfl,hw⟩;subst hw;clear K3
 cases b4
 ·clear KE C0;go_wp2;go_ret;exact⟨by rw [HO.out];simp,hB⟩
 go_wp2_with fail;refine (K4 _).mono ?_;rintro e w1 ⟨rfl,hw⟩;subst hw;clear K4
 cases b5
 ·clear KE C0;go_wp2;go_ret;exact⟨by rw [HO.out];simp,hB⟩
 have xB:0≤ix∧ix≤60:=by simp [inB] at hb5;omega
 obtain⟨x0',x60⟩:=xB;clear hb5;go_wp2_with fail;refine (K5 _).mono ?_;rintro e w1 ⟨rfl,hw⟩;subst hw;clear K5
 cases b6
 ·clear KE C0;go_wp2;go_ret;exact⟨by rw [HO.out];simp,hB⟩
 go_wp2_with fail;refine (K6 _).mono ?_;rintro e w1 ⟨rfl,hw⟩;subst hw;clear K6
 cases b7
 ·clear KE C0;go_wp2;go_ret;exact⟨by rw [HO.out];simp,hB⟩
 have HV:Hid (R=restB ki te ix be co ye es):=by
  show _=_;rw [HO.out,decide_eq_false c2];rfl
 clear HO;by_cases k1:ki=1
 ·subst k1;have HE:=HV.out;clear HV KE;rw [restB_1] at HE;rcases C0 with⟨hc,hn | ⟨hn,h0⟩⟩ | ⟨hc,hn,h0⟩
  ·rw [hc] at HE;have HO:Hid _:=HE;clear HE hc;generalize es.length=n at*;have hn2:(0:Int)<(n:Int):=by omega
   go_wp2;go_ret;exact⟨by rw [HO.out];simp <;>omega,hB⟩
  ·rw [hc] at HE;have HO:Hid _:=HE;clear HE hc;have h0b:(co==0)=false:=by simp [h0]
   have h0c:(co !=0)=true:=by simp [h0]
   generalize es.length=n at*;subst hn;go_wp2;go_ret;exact⟨by rw [HO.out];simp <;>omega,hB⟩
  ·rw [hc] at HE;have HO:Hid _:=HE;clear HE hc;subst h0;generalize es.length=n at*;subst hn
   cases ye
   ·go_wp2;go_ret;exact⟨by rw [HO.out];simp <;>omega,hB⟩
   go_wp2;go_ret;exact⟨by rw [HO.out];simp <;>omega,hB⟩
 by_cases k2:ki=2
 ·subst k2;have HE:=HV.out;clear HV KE;rw [restB_2] at HE;rcases C0 with⟨hc,hn | ⟨hn,h0⟩⟩ | ⟨hc,hn,h0⟩
  ·rw [hc] at HE;have HO:Hid _:=HE;clear HE hc;generalize es.length=n at*;have hn2:(0:Int)<(n:Int):=by omega
   go_wp2;go_ret;exact⟨by rw [HO.out];simp <;>omega,hB⟩
  ·rw [hc] at HE;have HO:Hid _:=HE;clear HE hc;have h0b:(co==0)=false:=by simp [h0]
   have h0c:(co !=0)=true:=by simp [h0]
   generalize es.length=n at*;subst hn;go_wp2;go_ret;exact⟨by rw [HO.out];simp <;>omega,hB⟩
  ·rw [hc] at HE;have HO:Hid _:=HE;clear HE hc;subst h0;generalize es.length=n at*;subst hn;by_cases z1:ix=0;rotate_left
   ·have z1b:(ix==0)=false:=by simp [z1]
    go_wp2;go_ret;exact⟨by rw [HO.out];simp [z1],hB⟩
   subst z1;by_cases z2:be=0;rotate_left
   ·have z2b:(be==0)=false:=by simp [z2]
    go_wp2;go_ret;exact⟨by rw [HO.out];simp [z2],hB⟩
   subst z2;go_wp2;go_ret;exact⟨by rw [HO.out];simp <;>omega,hB⟩
 by_cases k3:ki=3
 ·subst k3;have HE:=HV.out;clear HV C0;rw [restB_3] at HE;have HO:Hid _:=HE;clear HE;generalize (gE te 0 es&&decide ((es.length:Int)≤60))=g at*;generalize es.length=n at*
  cases ye
  rotate_left
  ·clear KE;go_wp2;go_ret;exact⟨by rw [HO.out];simp,hB⟩
  go_wp2_with fail;refine KE.mono ?_;rintro e w2 ⟨rfl,hb⟩;replace hB:=za_ hB hb;replace X:=X.below hb;clear KE hb;obtain⟨hxl,x0,x1,x2,x3,x4,x5,x6,x7,x8⟩:=X.e9
  cases g
  ·go_wp2;go_ret;exact⟨by rw [HO.out];simp,hB⟩
  by_cases z:ix+(n:Int)≤60
  all_goals
   go_wp2;go_ret;exact⟨by rw [HO.out];simp <;>omega,hB⟩
 by_cases k4:ki=4
 ·subst k4;have HE:=HV.out;clear HV KE;rw [restB_4] at HE;rcases C0 with⟨hc,hn | ⟨hn,h0⟩⟩ | ⟨hc,hn,h0⟩
  ·rw [hc] at HE;have HO:Hid _:=HE;clear HE hc;generalize es.length=n at*;have hn2:(0:Int)<(n:Int):=by omega
   go_wp2;go_ret;exact⟨by rw [HO.out];simp <;>omega,hB⟩
  ·rw [hc] at HE;have HO:Hid _:=HE;clear HE hc;have h0b:(co==0)=false:=by simp [h0]
   have h0c:(co !=0)=true:=by simp [h0]
   generalize es.length=n at*;subst hn;go_wp2;go_ret;exact⟨by rw [HO.out];simp <;>omega,hB⟩
  ·rw [hc] at HE;have HO:Hid _:=HE;clear HE hc;subst h0;generalize es.length=n at*;subst hn;by_cases z2:be=0;rotate_left
   ·have z2b:(be==0)=false:=by simp [z2]
    go_wp2;go_ret;exact⟨by rw [HO.out];simp [z2],hB⟩
   subst z2;go_wp2;go_ret;exact⟨by rw [HO.out];simp <;>omega,hB⟩
 have HE:=HV.out;clear HV KE;rw [restB_x _ _ _ _ _ _ _ k1 k2 k3 k4] at HE;have HO:Hid _:=HE;clear HE;have k4b:(ki==4)=false:=by simp [k4]
 have k3b:(ki !=3)=true:=by simp [k3]
 rcases C0 with⟨hc,hn | ⟨hn,h0⟩⟩ | ⟨hc,hn,h0⟩
 ·clear hc;generalize es.length=n at*;have hn2:(0:Int)<(n:Int):=by omega
  go_wp2;go_ret;exact⟨by rw [HO.out];try rfl,hB⟩
 ·clear hc;have h0b:(co==0)=false:=by simp [h0]
  have h0c:(co !=0)=true:=by simp [h0]
  generalize es.length=n at*;subst hn;go_wp2;go_ret;exact⟨by rw [HO.out];try rfl,hB⟩
 ·clear hc;subst h0;generalize es.length=n at*;subst hn;go_wp2;go_ret;exact⟨by rw [HO.out];try rfl,hB⟩
end Go.Proofs.YtapfhhmimkkhnaaGreat
