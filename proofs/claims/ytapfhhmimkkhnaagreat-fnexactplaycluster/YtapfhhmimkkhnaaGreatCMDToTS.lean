/-
  A cluster marked, a row of bools spared.
  Steps in a row: rows of five cells; szClusterStepS, toClusterStepS, eqClusterStepS, markClusterStepS.
-/
import Derived.Test.YtapfhhmimkkhnaaGreatCLToCN
import Derived.Test.YtapfhhmimkkhnaaGreatNCToPP
import Derived.Test.YtapfhhmimkkhnaaGreatAToRF1
import Derived.Test.YtapfhhmimkkhnaaGreatR3ToP2
import Derived.Test.YtapfhhmimkkhnaaGreatRF2ToK9
import Derived.OwnWalk
import Derived.Deep.RegionHeld3
import Derived.Deep.QuietTactic
import Derived.BigQuiet
namespace Go.Proofs.YtapfhhmimkkhnaaGreat
open Go.RowKit Go.Maps
set_option linter.unusedVariables false
set_option maxRecDepth 100000
set_option maxHeartbeats 16000000
theorem markCluster_ownD (vn vm vl:Value) (N:List Nv) (M:List Mv) (L:List Ld) (lo hi:Nat) (k:Int) (w:World) (ho:OwnC w lo hi vn vm vl N M L) (hs:CS N M L) (h1:1≤k) (h2:k+(uC N M L:Nat)≤40000000) (dv:Value) (db dn:Nat) (dx:List Value) (od:w.ownsRow db 4 1 dv dn dx):
  Calls Tryz.prog 26 #[.agg #[vn,vm,vl],k] w fun e w'=>e= .returned (.int .i64 (k+(uC N M L:Nat)))∧OwnC w' lo hi vn vm vl (mkL mkNv uN k N) (mkL mkMv uM (k+(sm uN N:Nat)) M) (mkL mkLd uL (k+(sm uN N:Nat)+(sm uM M:Nat)) L)∧Chg (fun b=>(lo≤b∧b<hi)∧¬dv.ownBlock=some b) w w':=by
 have hB:=zb_ w (.cells #[vn,vm,vl] 30);have X:=Box.new w #[vn,vm,vl] 30;have e1:=ho.cn.ends;have e2:=ho.cm.ends;have hB0:=hB.size;unfold uC at h2;rw [show k+(uC N M L:Nat)=k+(sm uN N:Nat)+(sm uM M:Nat)+(sm uL L:Nat) from by unfold uC;omega];have bnd:=ho.bn;have bmd:=ho.bm;have bld:=ho.bl;have gn:=zh_ ho.n;have gm:=zh_ ho.m;have gl:=zh_ ho.l;have K1:=fun W h hc=>markNodeS_own vn lo lo hi N k W h hc hs.n hs.ne h1 (by omega);have K2:=fun W h hc=>markMsgsS_own vm lo lo hi M (k+(sm uN N:Nat)) W h hc hs.m hs.me (by omega) (by omega);have K3:=fun W h=>markLeadS_own vl lo L (k+(sm uN N:Nat)+(sm uM M:Nat)) W h hs.l (by omega) (by omega);have BNi:∀i (h:i<N.length) b,BN N[i] b→lo≤b∧b<hi:=fun i h b hb=>by obtain⟨_,_,_,q⟩:=ho.cn.at i h;exact q b hb
 have BMi:∀i (h:i<M.length) b,BM M[i] b→lo≤b∧b<hi:=fun i h b hb=>by obtain⟨_,_,_,q⟩:=ho.cm.at i h;exact q b hb
 have hNl:=hs.n;have AP:=ho.ap;have ho1:=ho.below hB;have od1:=zd_ od hB;obtain⟨⟨na,nc,rfl⟩,⟨xa,xc,rfl⟩,ya,yc,rfl⟩:=ho.shapes;have lw:∀b,(lo≤b∧b<hi)∧(Value.slice na N.length nc).ownBlock=some b→b<w.heap.size:=fun b hb=>zg_ ho.n b hb.2;have XB:∀b,((Value.slice na N.length nc).ownBlock=some b∨∃i,∃h:i<N.length,BN N[i] b)→b<w.heap.size:=fun b hb=>by
  rcases hb with hb | ⟨i,h,hb⟩
  ·exact zg_ ho.n b hb
  ·obtain⟨_,_,q,_⟩:=ho.cn.at i h;exact (PN.in q b hb).2
 have XC:∀b,((Value.slice xa M.length xc).ownBlock=some b∨∃i,∃h:i<M.length,BM M[i] b)→b<w.heap.size:=fun b hb=>by
  rcases hb with hb | ⟨i,h,hb⟩
  ·exact zg_ ho.m b hb
  ·obtain⟨_,_,q,_⟩:=ho.cm.at i h;exact (PM.in q b hb).2
 clear ho hs lw;have t1:∀b,(Value.slice xa M.length xc).ownBlock=some b→¬((Value.slice na N.length nc).ownBlock=some b∨∃i,∃h:i<N.length,BN N[i] b):=fun b hb hh=>by
  rcases hh with hh | ⟨i,h,hh⟩
  ·exact zi_ ho1.n ho1.m (by decide) b hh hb
  ·obtain⟨_,_,q,_⟩:=ho1.cn.at i h;exact PN.row_ne q ho1.m (by decide) (by decide) b hh hb
 have t2:∀b,(Value.slice ya L.length yc).ownBlock=some b→¬((Value.slice na N.length nc).ownBlock=some b∨∃i,∃h:i<N.length,BN N[i] b):=fun b hb hh=>by
  rcases hh with hh | ⟨i,h,hh⟩
  ·exact zi_ ho1.n ho1.l (by decide) b hh hb
  ·obtain⟨_,_,q,_⟩:=ho1.cn.at i h;exact PN.row_ne q ho1.l (by decide) (by decide) b hh hb
 have t3:∀b,(Value.slice ya L.length yc).ownBlock=some b→¬((Value.slice xa M.length xc).ownBlock=some b∨∃i,∃h:i<M.length,BM M[i] b):=fun b hb hh=>by
  rcases hh with hh | ⟨i,h,hh⟩
  ·exact zi_ ho1.m ho1.l (by decide) b hh hb
  ·obtain⟨_,_,q,_⟩:=ho1.cm.at i h;exact PM.row_ne q ho1.l (by decide) b hh hb
 have t4:∀b,(Value.slice na N.length nc).ownBlock=some b→¬((Value.slice xa M.length xc).ownBlock=some b∨∃i,∃h:i<M.length,BM M[i] b):=fun b hb hh=>by
  rcases hh with hh | ⟨i,h,hh⟩
  ·exact zi_ ho1.m ho1.n (by decide) b hh hb
  ·obtain⟨_,_,q,_⟩:=ho1.cm.at i h;exact PM.row_ne q ho1.n (by decide) b hh hb
 have D1:∀b,((Value.slice na N.length nc).ownBlock=some b∨∃i,∃h:i<N.length,BN N[i] b)→¬dv.ownBlock=some b:=fun b hh hb=>by
  rcases hh with hh | ⟨i,h,hh⟩
  ·exact zi_ ho1.n od1 (by decide) b hh hb
  ·obtain⟨_,_,q,_⟩:=ho1.cn.at i h;exact PN.row_ne q od1 (by decide) (by decide) b hh hb
 have D2:∀b,((Value.slice xa M.length xc).ownBlock=some b∨∃i,∃h:i<M.length,BM M[i] b)→¬dv.ownBlock=some b:=fun b hh hb=>by
  rcases hh with hh | ⟨i,h,hh⟩
  ·exact zi_ ho1.m od1 (by decide) b hh hb
  ·obtain⟨_,_,q,_⟩:=ho1.cm.at i h;exact PM.row_ne q od1 (by decide) b hh hb
 have D3:∀b,(Value.slice ya L.length yc).ownBlock=some b→¬dv.ownBlock=some b:=fun b hh hb=>zi_ ho1.l od1 (by decide) b hh hb;obtain⟨on,om,ol,cn,cm,_,_,_,_⟩:=ho1;have S1:∀b,((Value.slice na N.length nc).ownBlock=some b∨∃i,∃h:i<N.length,BN N[i] b)→(lo≤b∧b<hi)∧¬dv.ownBlock=some b:=fun b hb=>⟨by
  rcases hb with hb | ⟨i,h,hb⟩
  ·exact⟨gn b hb,bnd b hb⟩
  ·have:=BNi i h b hb;omega,D1 b hb⟩
 have S2:∀b,((Value.slice xa M.length xc).ownBlock=some b∨∃i,∃h:i<M.length,BM M[i] b)→(lo≤b∧b<hi)∧¬dv.ownBlock=some b:=fun b hb=>⟨by
  rcases hb with hb | ⟨i,h,hb⟩
  ·exact⟨gm b hb,bmd b hb⟩
  ·have:=BMi i h b hb;omega,D2 b hb⟩
 have hC:Chg (fun b=>(lo≤b∧b<hi)∧¬dv.ownBlock=some b) w _:=Chg.of_below hB;clear hB od od1;go_enter Tryz.func26,Tryz.ntmps26;go_wp2_with fail;refine (K1 _ on cn).mono ?_;rintro e w1 ⟨rfl,on1,cn1,hc⟩;have cm1:zp_ PM BM w1 lo hi M:=cm.mapI fun j hj c hp hb=>hc.owns hp fun b h1 h2=>by
  rcases h2 with h2 | ⟨i,h,h2⟩
  ·exact PM.row_ne hp on (by decide) b h1 h2
  ·exact AP i j h hj b h2 h1
 replace om:=hc.owns om t1;replace ol:=hc.owns ol t2;replace X:=hc.box X (fun h=>by have:=XB _ h;omega);replace hC:=hC.trans (hc.mono S1);clear K1 hc cn on cm t1 t2 S1 XB;obtain⟨hxl,x0,x1,x2⟩:=X.c3;go_wp2_with fail;refine (K2 _ om cm1).mono ?_;rintro e w2 ⟨rfl,om1,cm2,hc⟩;have cn2:zp_ PN BN w2 lo hi (mkL mkNv uN k N):=cn1.mapI fun j hj c hp hb=>OwnN.chg hp hc fun b h1 h2=>by
  rcases h2 with h2 | ⟨i,h,h2⟩
  ·exact PN.row_ne hp om (by decide) (by decide) b h1 h2
  ·have hj':j<N.length:=by rw [zH_] at hj;exact hj
   exact AP j i hj' h b ((mkL_BN k N j hj' b).1 h1) h2
 replace on1:=hc.owns on1 t4;replace ol:=hc.owns ol t3;replace X:=hc.box X (fun h=>by have:=XC _ h;omega);replace hC:=hC.trans (hc.mono S2);clear K2 hc cn1 cm1 om t3 t4 S2 XC hxl x0 x1 x2;obtain⟨hxl,x0,x1,x2⟩:=X.c3;go_wp2_with fail;refine (K3 _ ol).mono ?_;rintro e w3 ⟨rfl,ol1,hc⟩;have cn3:zp_ PN BN w3 lo hi (mkL mkNv uN k N):=cn2.map fun c x hp hb=>OwnN.chg hp hc fun b h1 h2=>PN.row_ne hp ol (by decide) (by decide) b h1 h2;have cm3:zp_ PM BM w3 lo hi (mkL mkMv uM (k+(sm uN N:Nat)) M):=cm2.map fun c x hp hb=>hc.owns hp fun b h1 h2=>PM.row_ne hp ol (by decide) b h1 h2;have on3:=hc.owns on1 (fun b hb hh=>zi_ on1 ol (by decide) b hb hh);have om3:=hc.owns om1 (fun b hb hh=>zi_ om1 ol (by decide) b hb hh);replace hC:=hC.trans (hc.mono fun b hb=>⟨⟨gl b hb,bld b hb⟩,D3 b hb⟩);clear K3 hc cn2 cm2 on1 om1 ol hxl x0 x1 x2 X BNi BMi;have APm:∀i j (h1:i<(mkL mkNv uN k N).length) (h2:j<(mkL mkMv uM (k+(sm uN N:Nat)) M).length) b,BN (mkL mkNv uN k N)[i] b→¬BM (mkL mkMv uM (k+(sm uN N:Nat)) M)[j] b:=fun i j h1 h2 b h3 h4=>by
  have h1':i<N.length:=by rw [zH_] at h1;exact h1
  have h2':j<M.length:=by rw [zH_] at h2;exact h2
  exact AP i j h1' h2' b ((mkL_BN k N i h1' b).1 h3) ((mkL_BM _ M j h2' b).1 h4)
 have O:OwnC w3 lo hi (.slice na N.length nc) (.slice xa M.length xc) (.slice ya L.length yc) (mkL mkNv uN k N) (mkL mkMv uM (k+(sm uN N:Nat)) M) (mkL mkLd uL (k+(sm uN N:Nat)+(sm uM M:Nat)) L):=
  ⟨by rw [zH_];exact on3,by rw [zH_];exact om3,by rw [zH_];exact ol1,cn3,cm3,APm,bnd,bmd,bld⟩
 clear AP APm cn3 cm3 on3 om3 ol1 bnd bmd bld gn gm gl;go_wp2;go_ret;exact⟨rfl,O,hC⟩
end Go.Proofs.YtapfhhmimkkhnaaGreat
namespace Go.Proofs.YtapfhhmimkkhnaaGreat
open Go.RowKit
set_option linter.unusedVariables false
set_option maxRecDepth 100000
set_option maxHeartbeats 4000000
theorem ownsK_at {w:World} {base size:Nat} {e:TypeId} {g cap n:Nat} {xs:List Value} (h:w.ownsRow base e size (.slice (some ⟨g,0,none⟩) n cap) n xs) (i:Nat) (hi:i<n) (j:Nat) (hj:j<size):
  (∃u,w.cell? ⟨g,i*size+j,none⟩=some u)∧w.frozen? ⟨g,i*size+j,none⟩=false:=by
 have hl:=h.1;have hlt:i*size+j<n*size:=Nat.lt_of_lt_of_le (by rw [Nat.add_mul,Nat.one_mul];omega:i*size+j<(i+1)*size) (Nat.mul_le_mul_right size hi);refine⟨?_,h.frozenAt _⟩;rw [h.cellAt (i*size+j) hlt];exact⟨_,List.getElem?_eq_getElem (by omega)⟩
def Sp.zero:Sp:=⟨0,0,0,0,⟨#[]⟩⟩
instance:Inhabited Sp:=⟨Sp.zero⟩
def flT:List Sp→List Value
 | []=> []
 | s::r=> .int .i64 s.ki:: .int .i64 s.no:: .int .i64 s.k:: .int .i64 s.ma:: .string s.d::flT r
theorem flT_length (l:List Sp):(flT l).length=l.length*5:=by
 induction l with
 | nil=>rfl
 | cons x r ih=>simp only [flT,List.length_cons,ih];omega
theorem flT_get (l:List Sp) (i:Nat) (h:i<l.length):(flT l)[i*5]? =some (.int .i64 l[i].ki)∧(flT l)[i*5+1]? =some (.int .i64 l[i].no)∧(flT l)[i*5+2]? =some (.int .i64 l[i].k)∧(flT l)[i*5+3]? =some (.int .i64 l[i].ma)∧(flT l)[i*5+4]? =some (.string l[i].d):=by
 induction l generalizing i with
 | nil=>simp at h
 | cons x r ih=>
  cases i with
  | zero=>exact⟨rfl,rfl,rfl,rfl,rfl⟩
  | succ i=>
   have:=ih i (by simpa using h);rw [show (i+1)*5=i*5+1+1+1+1+1 from by omega,show i*5+1+1+1+1+1+1=(i*5+1)+1+1+1+1+1 from by omega,show i*5+1+1+1+1+1+2=(i*5+2)+1+1+1+1+1 from by omega,show i*5+1+1+1+1+1+3=(i*5+3)+1+1+1+1+1 from by omega,show i*5+1+1+1+1+1+4=(i*5+4)+1+1+1+1+1 from by omega];simp only [flT,List.getElem?_cons_succ,List.getElem_cons_succ];exact this
theorem flT_set (l:List Sp) (i:Nat) (s:Sp):(((((flT l).set (i*5) (.int .i64 s.ki)).set (i*5+1) (.int .i64 s.no)).set (i*5+2) (.int .i64 s.k)).set (i*5+3) (.int .i64 s.ma)).set (i*5+4) (.string s.d)=flT (l.set i s):=by
 induction l generalizing i with
 | nil=>simp [flT]
 | cons x r ih=>
  cases i with
  | zero=>simp [flT]
  | succ i=>
   rw [show (i+1)*5=i*5+1+1+1+1+1 from by omega,show i*5+1+1+1+1+1+1=(i*5+1)+1+1+1+1+1 from by omega,show i*5+1+1+1+1+1+2=(i*5+2)+1+1+1+1+1 from by omega,show i*5+1+1+1+1+1+3=(i*5+3)+1+1+1+1+1 from by omega,show i*5+1+1+1+1+1+4=(i*5+4)+1+1+1+1+1 from by omega];simp only [flT,sC_];rw [ih i]
theorem flT_zeros (n:Nat):(madeCells (Value.agg #[.int .i64 0,.int .i64 0,.int .i64 0,.int .i64 0,.string ⟨#[]⟩]).cells (n*5)).toList=flT (List.replicate n Sp.zero):=by
 have hcs:(Value.agg #[.int .i64 0,.int .i64 0,.int .i64 0,.int .i64 0,.string ⟨#[]⟩]).cells=#[.int .i64 0,.int .i64 0,.int .i64 0,.int .i64 0,.string ⟨#[]⟩]:=rfl;rw [hcs];apply List.ext_getElem?;intro i;by_cases hi:i<n*5
 ·obtain⟨j,m,hm,rfl⟩:∃j m,m<5∧i=j*5+m:=⟨i / 5,i % 5,by omega,by omega⟩;have hj:j<(List.replicate n Sp.zero).length:=by simp;omega
  obtain⟨g0,g1,g2,g3,g4⟩:=flT_get _ j hj;obtain rfl | rfl | rfl | rfl | rfl:m=0∨m=1∨m=2∨m=3∨m=4:=by omega
  ·rw [Nat.add_zero] at hi ⊢;rw [g0];simp [madeCells,hi,Sp.zero]
  ·rw [g1];simp [madeCells,hi,Sp.zero]
  ·rw [g2];simp [madeCells,hi,Sp.zero]
  ·rw [g3];simp [madeCells,hi,Sp.zero]
  ·rw [g4];simp [madeCells,hi,Sp.zero]
 ·rw [List.getElem?_eq_none (by simp [madeCells];omega),List.getElem?_eq_none (by rw [flT_length];simp;omega)]
def TR (w:World) (v:Value) (l:List Sp):Prop:=
 ∃a cap,v= .slice a l.length cap∧(l≠ []→∃b off,a=some ⟨b,off,none⟩∧b<w.heap.size∧
  ∀i (h:i<l.length),w.cell? ⟨b,off+i*5,none⟩=some (.int .i64 l[i].ki)∧w.cell? ⟨b,off+i*5+1,none⟩=some (.int .i64 l[i].no)∧w.cell? ⟨b,off+i*5+2,none⟩=some (.int .i64 l[i].k)∧w.cell? ⟨b,off+i*5+3,none⟩=some (.int .i64 l[i].ma)∧w.cell? ⟨b,off+i*5+4,none⟩=some (.string l[i].d))
theorem TR.below {w w':World} {v:Value} {l:List Sp} (h:TR w v l) (hb:Below w.heap.size w w'):TR w' v l:=by
 obtain⟨a,cap,hv,hc⟩:=h;refine⟨a,cap,hv,fun hl=> ?_⟩;obtain⟨b,off,ha,hbl,hcell⟩:=hc hl;refine⟨b,off,ha,Nat.lt_of_lt_of_le hbl hb.size,fun i hi=> ?_⟩;obtain⟨c0,c1,c2,c3,c4⟩:=hcell i hi;exact⟨(hb.cell (p:=⟨b,off+i*5,none⟩) hbl).trans c0,(hb.cell (p:=⟨b,off+i*5+1,none⟩) hbl).trans c1,(hb.cell (p:=⟨b,off+i*5+2,none⟩) hbl).trans c2,(hb.cell (p:=⟨b,off+i*5+3,none⟩) hbl).trans c3,(hb.cell (p:=⟨b,off+i*5+4,none⟩) hbl).trans c4⟩
theorem TR.size {w:World} {v:Value} {l:List Sp} (h:TR w v l):∃a cap,v= .slice a l.length cap:=by obtain⟨a,c,h,_⟩:=h;exact⟨a,c,h⟩
theorem TR_of_owns {w:World} {base n:Nat} {e:TypeId} {v:Value} {l:List Sp} (h:w.ownsRow base e 5 v n (flT l)) (hn:n=l.length):TR w v l:=by
 subst hn;have h':=h;obtain⟨hl,h⟩:=h;rcases h with⟨rfl,h0⟩ | ⟨g,cap,cur,rfl,hbg,hh,hcap,hm,hsz,htk⟩
 ·exact⟨none,0,by rw [h0],fun hne=>absurd (List.length_eq_zero_iff.1 h0) hne⟩
 ·refine⟨_,cap,rfl,fun _=>⟨g,0,rfl,(Array.getElem?_eq_some_iff.1 hh).1,fun i hi=> ?_⟩⟩;obtain⟨g0,g1,g2,g3,g4⟩:=flT_get l i hi;rw [Nat.zero_add];exact⟨by rw [h'.cellAt (i*5) (by omega),g0],by rw [h'.cellAt (i*5+1) (by omega),g1],by rw [h'.cellAt (i*5+2) (by omega),g2],by rw [h'.cellAt (i*5+3) (by omega),g3],by rw [h'.cellAt (i*5+4) (by omega),g4]⟩
def partT (l:List Sp) (k:Nat):List Sp:=l.take k++List.replicate (l.length-k) Sp.zero
theorem partT_zero (l:List Sp):partT l 0=List.replicate l.length Sp.zero:=by simp [partT]
theorem partT_all (l:List Sp):partT l l.length=l:=by simp [partT]
theorem partT_set (l:List Sp) (k:Nat) (h:k<l.length):(partT l k).set k l[k]=partT l (k+1):=by
 unfold partT;have h1:(l.take k).length=k:=by simp;omega
 obtain⟨m,hm⟩:∃m,l.length-k=m+1:=⟨l.length-k-1,by omega⟩;rw [List.set_append_right _ _ (by omega),h1,Nat.sub_self,hm,List.replicate_succ,sB_,List.take_succ_eq_append_getElem h,List.append_assoc,show l.length-(k+1)=m from by omega]
 rfl
def totT:List Sp→Nat
 | []=>0
 | s::r=>s.d.size+totT r
theorem totT_take (l:List Sp) (k:Nat) (h:k<l.length):totT (l.take (k+1))=totT (l.take k)+l[k].d.size:=by
 induction l generalizing k with
 | nil=>simp at h
 | cons x r ih=>
  cases k with
  | zero=>simp [totT]
  | succ k=>
   simp only [List.take_succ_cons,totT,List.getElem_cons_succ];rw [ih k (by simpa using h)];omega
theorem totT_mem (l:List Sp) (k:Nat) (h:k<l.length):l[k].d.size≤totT l:=by
 induction l generalizing k with
 | nil=>simp at h
 | cons x r ih=>
  cases k with
  | zero=>simp [totT]
  | succ k=>have:=ih k (by simpa using h);simp only [totT,List.getElem_cons_succ];omega
theorem toClusterStep_any (ki:Int) (no:Int) (k:Int) (ma:Int) (d:ByteArray) (w:World):
  Calls Tryz.prog 50 #[.agg #[.int .i64 ki,.int .i64 no,.int .i64 k,.int .i64 ma,.string d]] w fun e w'=>e= .returned (.agg #[.int .i64 ki,.int .i64 no,.int .i64 k,.int .i64 ma,.string d])∧Below w.heap.size w w':=by
 go_enter Tryz.func50,Tryz.ntmps50;go_wp2;exact bodyPost_ret (v:= .agg #[.int .i64 ki,.int .i64 no,.int .i64 k,.int .i64 ma,.string d]) (by simp [results,Tryz.results50,go_sem]) rfl ⟨rfl,below3 _ _ _ _⟩
theorem szClusterStep_any (ki:Int) (no:Int) (k:Int) (ma:Int) (d:ByteArray) (left:Int) (w:World) (h0:0≤left) (h1:left≤1048576) (hd:d.size≤maxLen):
  Calls Tryz.prog 48 #[.agg #[.int .i64 ki,.int .i64 no,.int .i64 k,.int .i64 ma,.string d],.int .i64 left] w fun e w'=>e= .returned (.int .i64 (if (d.size:Int)≤left then left-d.size else -1))∧Below w.heap.size w w':=by
 unfold maxLen at hd;by_cases g0:(d.size:Int)≤left
 ·go_enter Tryz.func48,Tryz.ntmps48;go_wp2;go_ret;exact⟨by simp,zb_ _ _⟩
 ·go_enter Tryz.func48,Tryz.ntmps48;go_wp2;go_ret;exact⟨by simp,zb_ _ _⟩
theorem eqClusterStep_same (ki:Int) (no:Int) (k:Int) (ma:Int) (d:ByteArray) (w:World):
  Calls Tryz.prog 55 #[.agg #[.int .i64 ki,.int .i64 no,.int .i64 k,.int .i64 ma,.string d],.agg #[.int .i64 ki,.int .i64 no,.int .i64 k,.int .i64 ma,.string d]] w fun e w'=>e= .returned (.bool true)∧Below w.heap.size w w':=by
 go_enter Tryz.func55,Tryz.ntmps55;go_wp2;go_ret;exact⟨rfl,below2 _ _ _⟩
theorem Tryz.info51:(Tryz.prog.info? 51).map (fun i=>(i.zero,i.size,i.bytes))=some (some (.agg #[.int .i64 0,.int .i64 0,.int .i64 0,.int .i64 0,.string ⟨#[]⟩]),5,48):=by kernel_rfl
theorem szClusterStepS_any (v:Value) (l:List Sp) (left:Int) (w:World) (hv:TR w v l) (h0:0≤left) (h1:left≤1048576) (hn:l.length≤maxLen) (hs:∀i (h:i<l.length),l[i].d.size≤maxLen):
  Calls Tryz.prog 18 #[v,.int .i64 left] w fun e w'=>(∃r:Int,e= .returned (.int .i64 r)∧(r= -1∨(0≤r∧(totT l:Int)+l.length+r=left)))∧Below w.heap.size w w':=by
 obtain⟨a,cap,rfl,hc⟩:=hv;unfold maxLen at hn;by_cases hl:l.length≤left
 ·go_enter Tryz.func18,Tryz.ntmps18;go_wp2
  go_loopw [1,5] (fun t i wr=>∃k:Nat,k≤l.length∧i= .int .i64 k∧(totT (l.take k):Int)≤left-l.length∧t= .int .i64 (left-l.length-totT (l.take k))∧Below w.heap.size w wr) (fun _ i _=>l.length-(intOf i).toNat)
  case atStart=>exact⟨0,Nat.zero_le _,rfl,by simp [totT];omega,by simp [totT],Below.refl _ _⟩
  case round=>
   obtain⟨k,hk,rfl,ht,rfl,hb⟩:=hrel;by_cases hlt:k<l.length
   ·obtain⟨b,off,rfl,hbl,hcell⟩:=hc (by intro e;simp [e] at hlt);obtain⟨s,hse⟩:∃s,s=l[k]:=⟨_,rfl⟩;have hc0:=(hb.cell (p:=⟨b,off+k*5,none⟩) hbl).trans (hcell k hlt).1;have hc1:=(hb.cell (p:=⟨b,off+k*5+1,none⟩) hbl).trans (hcell k hlt).2.1;have hc2:=(hb.cell (p:=⟨b,off+k*5+2,none⟩) hbl).trans (hcell k hlt).2.2.1;have hc3:=(hb.cell (p:=⟨b,off+k*5+3,none⟩) hbl).trans (hcell k hlt).2.2.2.1;have hc4:=(hb.cell (p:=⟨b,off+k*5+4,none⟩) hbl).trans (hcell k hlt).2.2.2.2;have hss:=hs k hlt;have HT:Hid (totT (l.take (k+1))=totT (l.take k)+s.d.size):=by rw [hse];exact totT_take l k hlt
    rw [←hse] at hc0 hc1 hc2 hc3 hc4 hss;clear hcell hs hse hc;have hz:=hb.size;have KS:=fun w=>szClusterStep_any s.ki s.no s.k s.ma s.d (left-l.length-totT (l.take k)) w (by omega) (by omega) hss;obtain⟨ski,sno,sk,sma,sd⟩:=s;dsimp only at*;by_cases hle:(sd.size:Int)≤left-l.length-totT (l.take k)
    ·rw [if_pos hle] at KS;go_wp2_with fail;refine (KS _).mono ?_;rintro e w1 ⟨rfl,hb1⟩;go_wp2_with fail;go_roundw
     case rel=>exact⟨k+1,by omega,by go_num,by rw [HT.out];omega,by rw [HT.out];go_num,hb.trans (hb1.mono hz)⟩
     case measure=>simp [intOf];omega
    ·rw [if_neg hle] at KS;go_wp2_with fail;refine (KS _).mono ?_;rintro e w1 ⟨rfl,hb1⟩;go_wp2_with fail;go_ret;exact⟨⟨-1,rfl,.inl rfl⟩,hb.trans (hb1.mono hz)⟩
   ·go_wp2;go_ret;have:k=l.length:=by omega
    subst this;exact⟨⟨_,rfl,.inr (by rw [List.take_length] at*;omega)⟩,hb⟩
 ·go_enter Tryz.func18,Tryz.ntmps18;go_wp2;go_ret;exact⟨⟨-1,rfl,.inl rfl⟩,Below.refl _ _⟩
theorem toClusterStepS_any (v:Value) (l:List Sp) (w:World) (hv:TR w v l) (hn:l.length≤1048576):
  Calls Tryz.prog 20 #[v] w fun e w'=>e= .returned (.slice (some ⟨w.heap.size,0,none⟩) l.length l.length)∧w'.ownsRow w.heap.size 51 5 (.slice (some ⟨w.heap.size,0,none⟩) l.length l.length) l.length (flT l)∧Below w.heap.size w w':=by
 obtain⟨a,cap,rfl,hc⟩:=hv;obtain⟨i0,hi,hz0,hz1,hz2⟩:=info_parts Tryz.info51;go_enter Tryz.func20,Tryz.ntmps20;go_wp2_with (at_make;refine wpList_make_full _ rfl _ _ 23 rfl w.heap.size 51 i0 _ 5 Tryz.underlying23 hi hz0 hz1 .i64 .i64 _ _ l.length rfl rfl rfl rfl (by rw [hz2];omega) (by unfold maxLen;omega) (Nat.le_refl _) ?_;intro w0 hown0 hgr0);rw [flT_zeros,←partT_zero] at hown0;have hb0:Below w.heap.size w w0:=(Below.refl _ _).grown hgr0 (Nat.le_refl _) (by simp);have hlt0:w.heap.size<w0.heap.size:=(zU_ hown0).2;clear hgr0 hi hz0 hz1 hz2
 go_loopw [4] (fun i wr=>∃k:Nat,k≤l.length∧i= .int .i64 k∧wr.ownsRow w.heap.size 51 5 (.slice (some ⟨w.heap.size,0,none⟩) l.length l.length) l.length (flT (partT l k))∧Below w.heap.size w wr∧w.heap.size<wr.heap.size) (fun i _=>l.length-(intOf i).toNat)
 case atStart=>exact⟨0,Nat.zero_le _,rfl,hown0,hb0,hlt0⟩
 case round=>
  obtain⟨k,hk,rfl,hown,hb,hlt1⟩:=hrel;clear hown0 hb0 hlt0;by_cases hlt:k<l.length
  ·obtain⟨b,off,rfl,hbl,hcell⟩:=hc (by intro e;simp [e] at hlt);obtain⟨s,hse⟩:∃s,s=l[k]:=⟨_,rfl⟩;have hc0:=(hb.cell (p:=⟨b,off+k*5,none⟩) hbl).trans (hcell k hlt).1;have hc1:=(hb.cell (p:=⟨b,off+k*5+1,none⟩) hbl).trans (hcell k hlt).2.1;have hc2:=(hb.cell (p:=⟨b,off+k*5+2,none⟩) hbl).trans (hcell k hlt).2.2.1;have hc3:=(hb.cell (p:=⟨b,off+k*5+3,none⟩) hbl).trans (hcell k hlt).2.2.2.1;have hc4:=(hb.cell (p:=⟨b,off+k*5+4,none⟩) hbl).trans (hcell k hlt).2.2.2.2;have HS:Hid ((partT l k).set k s=partT l (k+1)):=by rw [hse];exact partT_set l k hlt
   rw [←hse] at hc0 hc1 hc2 hc3 hc4;clear hcell hse hc;have hz:=hb.size;obtain⟨ski,sno,sk,sma,sd⟩:=s;dsimp only at hc0 hc1 hc2 hc3 hc4;go_wp2_with fail;refine (toClusterStep_any _ _ _ _ _ _).mono ?_;rintro e w1 ⟨rfl,hb1⟩;have hown1:=zd_ hown hb1;obtain⟨⟨u0,d0⟩,f0⟩:=ownsK_at hown1 k hlt 0 (by omega);obtain⟨⟨u1,d1⟩,f1⟩:=ownsK_at hown1 k hlt 1 (by omega);obtain⟨⟨u2,d2⟩,f2⟩:=ownsK_at hown1 k hlt 2 (by omega);obtain⟨⟨u3,d3⟩,f3⟩:=ownsK_at hown1 k hlt 3 (by omega);obtain⟨⟨u4,d4⟩,f4⟩:=ownsK_at hown1 k hlt 4 (by omega);rw [Nat.add_zero] at d0 f0;have hz1:=hb1.size;have HO:Hid _:=(((((hown1.stored (k*5) (.int .i64 ski)).1.stored (k*5+1) (.int .i64 sno)).1.stored (k*5+2) (.int .i64 sk)).1.stored (k*5+3) (.int .i64 sma)).1.stored (k*5+4) (.string sd)).1;clear hown hown1;go_wp2;go_roundw
   case rel=>
    refine⟨k+1,by omega,by go_num,?_,?_,?_⟩
    ·have:=HO.out;rw [flT_set (partT l k) k ⟨ski,sno,sk,sma,sd⟩,HS.out] at this;exact this
    ·exact ((((((hb.trans (hb1.mono hz)).setCell (by simp) _).setCell (by simp) _).setCell (by simp) _).setCell (by simp) _).setCell (by simp) _)
    ·simp;omega
   case measure=>simp [intOf];omega
  ·go_wp2;go_ret;have:k=l.length:=by omega
   subst this;rw [partT_all] at hown;exact⟨rfl,hown,hb⟩
theorem eqClusterStepS_same (u v:Value) (l:List Sp) (w:World) (hu:TR w u l) (hv:TR w v l) (hn:l.length≤1048576):
  Calls Tryz.prog 24 #[u,v] w fun e w'=>e= .returned (.bool true)∧Below w.heap.size w w':=by
 obtain⟨a,cap,rfl,hc⟩:=hu;obtain⟨a',cap',rfl,hc'⟩:=hv;go_enter Tryz.func24,Tryz.ntmps24;go_wp2
 go_loopw [5] (fun i wr=>∃k:Nat,k≤l.length∧i= .int .i64 k∧Below w.heap.size w wr) (fun i _=>l.length-(intOf i).toNat)
 case atStart=>exact⟨0,Nat.zero_le _,rfl,Below.refl _ _⟩
 case round=>
  obtain⟨k,hk,rfl,hb⟩:=hrel;by_cases hlt:k<l.length
  ·obtain⟨b,off,rfl,hbl,hcell⟩:=hc (by intro e;simp [e] at hlt);obtain⟨b',off',rfl,hbl',hcell'⟩:=hc' (by intro e;simp [e] at hlt);obtain⟨s,hse⟩:∃s,s=l[k]:=⟨_,rfl⟩;have hc0:=(hb.cell (p:=⟨b,off+k*5,none⟩) hbl).trans (hcell k hlt).1;have hc1:=(hb.cell (p:=⟨b,off+k*5+1,none⟩) hbl).trans (hcell k hlt).2.1;have hc2:=(hb.cell (p:=⟨b,off+k*5+2,none⟩) hbl).trans (hcell k hlt).2.2.1;have hc3:=(hb.cell (p:=⟨b,off+k*5+3,none⟩) hbl).trans (hcell k hlt).2.2.2.1;have hc4:=(hb.cell (p:=⟨b,off+k*5+4,none⟩) hbl).trans (hcell k hlt).2.2.2.2;have hd0:=(hb.cell (p:=⟨b',off'+k*5,none⟩) hbl').trans (hcell' k hlt).1;have hd1:=(hb.cell (p:=⟨b',off'+k*5+1,none⟩) hbl').trans (hcell' k hlt).2.1;have hd2:=(hb.cell (p:=⟨b',off'+k*5+2,none⟩) hbl').trans (hcell' k hlt).2.2.1;have hd3:=(hb.cell (p:=⟨b',off'+k*5+3,none⟩) hbl').trans (hcell' k hlt).2.2.2.1;have hd4:=(hb.cell (p:=⟨b',off'+k*5+4,none⟩) hbl').trans (hcell' k hlt).2.2.2.2;rw [←hse] at hc0 hc1 hc2 hc3 hc4 hd0 hd1 hd2 hd3 hd4;clear hcell hse hc hcell' hc';have hz:=hb.size;obtain⟨ski,sno,sk,sma,sd⟩:=s;dsimp only at hc0 hc1 hc2 hc3 hc4 hd0 hd1 hd2 hd3 hd4;go_wp2_with fail
   go_region_held3 (fun w'=>(w'.cell? ⟨b,off+k*5,none⟩=some (.int .i64 ski)∧w'.cell? ⟨b,off+k*5+1,none⟩=some (.int .i64 sno)∧w'.cell? ⟨b,off+k*5+2,none⟩=some (.int .i64 sk)∧w'.cell? ⟨b,off+k*5+3,none⟩=some (.int .i64 sma)∧w'.cell? ⟨b,off+k*5+4,none⟩=some (.string sd))∧w'.cell? ⟨b',off'+k*5,none⟩=some (.int .i64 ski)∧w'.cell? ⟨b',off'+k*5+1,none⟩=some (.int .i64 sno)∧w'.cell? ⟨b',off'+k*5+2,none⟩=some (.int .i64 sk)∧w'.cell? ⟨b',off'+k*5+3,none⟩=some (.int .i64 sma)∧w'.cell? ⟨b',off'+k*5+4,none⟩=some (.string sd)) (go_keep)
    (first | (go_at_call 55;refine (eqClusterStep_same _ _ _ _ _ _).mono ?_;rintro e w1 ⟨rfl,hb1'⟩;have hb1:=below_undrew hb1';have hbl2:b<wr.heap.size:=(by omega);have hbl3:b'<wr.heap.size:=(by omega);replace hc0:=(hb1.cell (p:=⟨b,off+k*5,none⟩) hbl2).trans hc0;replace hc1:=(hb1.cell (p:=⟨b,off+k*5+1,none⟩) hbl2).trans hc1;replace hc2:=(hb1.cell (p:=⟨b,off+k*5+2,none⟩) hbl2).trans hc2;replace hc3:=(hb1.cell (p:=⟨b,off+k*5+3,none⟩) hbl2).trans hc3;replace hc4:=(hb1.cell (p:=⟨b,off+k*5+4,none⟩) hbl2).trans hc4;replace hd0:=(hb1.cell (p:=⟨b',off'+k*5,none⟩) hbl3).trans hd0;replace hd1:=(hb1.cell (p:=⟨b',off'+k*5+1,none⟩) hbl3).trans hd1;replace hd2:=(hb1.cell (p:=⟨b',off'+k*5+2,none⟩) hbl3).trans hd2;replace hd3:=(hb1.cell (p:=⟨b',off'+k*5+3,none⟩) hbl3).trans hd3;replace hd4:=(hb1.cell (p:=⟨b',off'+k*5+4,none⟩) hbl3).trans hd4))
   go_wp2;go_roundw
   case rel=>exact⟨k+1,by omega,by go_num,hb.trans (hb1.mono hz)⟩
   case measure=>simp [intOf];omega
  ·clear hc hc';go_wp2;go_ret;exact⟨rfl,hb⟩
def mkSt (k:Int):Sp:=⟨k,k+1,k+1+1,k+1+1+1,mkT (k+1+1+1+1)⟩
def mkSts (k:Int) (n:Nat):List Sp:=(List.range n).map fun j:Nat=>mkSt (k+5*(j:Int))
theorem mkSts_length (k:Int) (n:Nat):(mkSts k n).length=n:=by simp [mkSts]
theorem mkSts_at (k:Int) (n j:Nat) (h:j<n):(mkSts k n)[j]'(by rw [mkSts_length];exact h)=mkSt (k+5*(j:Int)):=by simp [mkSts]
def mkStp (l:List Sp) (k:Int) (j:Nat):List Sp:=(mkSts k l.length).take j++l.drop j
theorem mkStp_set (l:List Sp) (k:Int) (j:Nat) (h:j<l.length):(mkStp l k j).set j (mkSt (k+5*(j:Int)))=mkStp l k (j+1):=by
 unfold mkStp;have h1:((mkSts k l.length).take j).length=j:=by rw [List.length_take,mkSts_length];omega
 rw [List.set_append_right _ _ (by omega),h1,Nat.sub_self,List.take_succ_eq_append_getElem (by rw [mkSts_length];exact h),mkSts_at k _ j h,List.drop_eq_getElem_cons h,sB_,List.append_assoc]
 rfl
theorem mkStp_all (l:List Sp) (k:Int):mkStp l k l.length=mkSts k l.length:=by
 unfold mkStp;rw [List.take_of_length_le (by rw [mkSts_length];omega),List.drop_eq_nil_of_le (by omega),List.append_nil]
theorem mkStp_zero (l:List Sp) (k:Int):mkStp l k 0=l:=by simp [mkStp]
theorem markClusterStepS_at (g cap base:Nat) (l:List Sp) (k:Int) (w:World) (ho:w.ownsRow base 51 5 (.slice (some ⟨g,0,none⟩) l.length cap) l.length (flT l)) (hn:l.length≤1048576) (h1:1≤k) (h2:k≤50000000):
  Calls Tryz.prog 25 #[.slice (some ⟨g,0,none⟩) l.length cap,.int .i64 k] w fun e w'=>e= .returned (.int .i64 (k+5*l.length))∧w'.ownsRow base 51 5 (.slice (some ⟨g,0,none⟩) l.length cap) l.length (flT (mkSts k l.length))∧Chg (· =g) w w':=by
 go_enter Tryz.func25,Tryz.ntmps25;go_wp2
 go_loopw [1,5] (fun t i wr=>∃j:Nat,j≤l.length∧i= .int .i64 j∧t= .int .i64 (k+5*j)∧wr.ownsRow base 51 5 (.slice (some ⟨g,0,none⟩) l.length cap) l.length (flT (mkStp l k j))∧Chg (· =g) w wr) (fun _ i _=>l.length-(intOf i).toNat)
 case atStart=>exact⟨0,Nat.zero_le _,rfl,by go_num,by rw [mkStp_zero];exact ho,Chg.refl _ _⟩
 case round=>
  clear ho;obtain⟨j,hj,rfl,rfl,hown,hch⟩:=hrel;by_cases hlt:j<l.length
  ·have HS:Hid (flT ((mkStp l k j).set j (mkSt (k+5*(j:Int))))=flT (mkStp l k (j+1))):=by show _=_;rw [mkStp_set l k j hlt]
   have HF:Hid ((((((flT (mkStp l k j)).set (j*5) (.int .i64 (k+5*j))).set (j*5+1) (.int .i64 (k+5*j+1))).set (j*5+2) (.int .i64 (k+5*j+1+1))).set (j*5+3) (.int .i64 (k+5*j+1+1+1))).set (j*5+4) (.string (mkT (k+5*j+1+1+1+1)))=flT ((mkStp l k j).set j (mkSt (k+5*(j:Int))))):=flT_set (mkStp l k j) j (mkSt (k+5*(j:Int)));have HG:Hid ((((((flT (mkStp l k j)).set (j*5) (.int .i64 (k+5*j))).set (j*5+1) (.int .i64 (k+5*j+1))).set (j*5+2) (.int .i64 (k+5*j+1+1))).set (j*5+3) (.int .i64 (k+5*j+1+1+1))).set (j*5+4) (.string (mkT (k+5*j+1+1+1+1)))=flT (mkStp l k (j+1))):=HF.out.trans HS.out;clear HS HF;generalize flT (mkStp l k j)=ys at*;have hgl:=(zU_ hown).2;obtain⟨⟨u0,d0⟩,f0⟩:=ownsK_at hown j hlt 0 (by omega);rw [Nat.add_zero] at d0 f0;obtain⟨⟨u1,d1⟩,f1⟩:=ownsK_at hown j hlt 1 (by omega);obtain⟨⟨u2,d2⟩,f2⟩:=ownsK_at hown j hlt 2 (by omega);obtain⟨⟨u3,d3⟩,f3⟩:=ownsK_at hown j hlt 3 (by omega);have o1:=(hown.stored (j*5) (.int .i64 (k+5*j))).1;have C1:=hch.setCell (p:=⟨g,j*5,none⟩) rfl (.int .i64 (k+5*j));clear hown hch;have o2:=(o1.stored (j*5+1) (.int .i64 (k+5*j+1))).1;have C2:=C1.setCell (p:=⟨g,j*5+1,none⟩) rfl (.int .i64 (k+5*j+1));clear o1 C1;have o3:=(o2.stored (j*5+2) (.int .i64 (k+5*j+1+1))).1;have C3:=C2.setCell (p:=⟨g,j*5+2,none⟩) rfl (.int .i64 (k+5*j+1+1));clear o2 C2;have o4:=(o3.stored (j*5+3) (.int .i64 (k+5*j+1+1+1))).1;have C4:=C3.setCell (p:=⟨g,j*5+3,none⟩) rfl (.int .i64 (k+5*j+1+1+1));clear o3 C3;go_wp2_with fail;refine (markText_any _ _ (by omega) (by omega)).mono ?_;rintro e w5 ⟨rfl,hb5⟩;have o5:=zd_ o4 hb5;have C5:=C4.trans (Chg.of_below hb5);clear o4 C4 hb5 d0 f0 d1 f1 d2 f2 d3 f3;have hgl5:=(zU_ o5).2;obtain⟨⟨u4,d4⟩,f4⟩:=ownsK_at o5 j hlt 4 (by omega);have o6:=(o5.stored (j*5+4) (.string (mkT (k+5*j+1+1+1+1)))).1;have C6:=C5.setCell (p:=⟨g,j*5+4,none⟩) rfl (.string (mkT (k+5*j+1+1+1+1)));clear o5 C5;generalize mkT (k+5*j+1+1+1+1)=t4 at*;have HO:Hid _:=o6;clear o6;go_wp2;go_roundw
   case rel=>exact⟨j+1,by omega,by go_num,by go_num,by rw [←HG.out];exact HO.out,C6⟩
   case measure=>simp [intOf];omega
  ·obtain rfl:j=l.length:=by omega
   rw [mkStp_all] at hown;go_wp2;go_ret;exact⟨rfl,hown,hch⟩
theorem markClusterStepS_nil (k:Int) (w:World) (h1:1≤k) (h2:k≤50000000):Calls Tryz.prog 25 #[.slice none 0 0,.int .i64 k] w fun e w'=>e= .returned (.int .i64 k)∧w'=w:=by
 go_enter Tryz.func25,Tryz.ntmps25;go_wp2
 go_loopw [1,5] (fun t i wr=>i= .int .i64 0∧t= .int .i64 k∧wr=w) (fun _ _ _=>0)
 case atStart=>exact⟨rfl,rfl,rfl⟩
 case round=>
  obtain⟨rfl,rfl,rfl⟩:=hrel;go_wp2;go_ret;exact⟨rfl,rfl⟩
theorem markClusterStepS_own (v:Value) (base:Nat) (l:List Sp) (k:Int) (w:World) (ho:w.ownsRow base 51 5 v l.length (flT l)) (hn:l.length≤1048576) (h1:1≤k) (h2:k≤50000000):
  Calls Tryz.prog 25 #[v,.int .i64 k] w fun e w'=>e= .returned (.int .i64 (k+5*l.length))∧w'.ownsRow base 51 5 v l.length (flT (mkSts k l.length))∧Chg (fun b=>v.ownBlock=some b) w w':=by
 rcases ho.2 with⟨rfl,h0⟩ | ⟨g,cap,cur,rfl,_⟩
 ·rw [h0];refine (markClusterStepS_nil k w h1 h2).mono ?_;rintro e w' ⟨rfl,rfl⟩;exact⟨by simp,World.ownsRow_nil _ _ _ _,Chg.refl _ _⟩
 ·refine (markClusterStepS_at g cap base l k w ho hn h1 h2).mono ?_;rintro e w' ⟨rfl,h1,h2⟩;exact⟨rfl,h1,h2.mono fun b hb=>by rw [hb];rfl⟩
theorem flT_S (l:List Sp):flT l=flatS l:=by
 induction l with
 | nil=>rfl
 | cons x r ih=>simp only [flT,flatS,ih]
end Go.Proofs.YtapfhhmimkkhnaaGreat
