/-
  Agreement, plainly: who wins, who commits, who proposes, who asks.
  Messages without entries, in a row: rows of nine cells; eqRaftMsgS, markRaftMsgS, heldRaftMsgS.
  Messages without entries, in a row: marked and held.
  Messages without entries, in a row: held; nil or not.
  The messages that ask the others: asksToOthers.
  A vote counted where none stood: BinarySearch and Insert on nothing, leading.
-/
import Derived.Test.YtapfhhmimkkhnaaGreatG1ToRF7
import Derived.Test.YtapfhhmimkkhnaaGreatA4ToKC3
import Derived.Deep.Cut
namespace Go.Proofs.YtapfhhmimkkhnaaGreat
set_option linter.unusedVariables false
theorem cnt_list {p:Nat→Prop} :∀(n:Nat) (l:List Nat),l.Nodup→(∀i∈l,i<n∧p i)→l.length≤cnt p n:=by
 intro n
 induction n with
 | zero=>
  intro l hd hl
  cases l with
  | nil=>simp
  | cons x r=>have:=(hl x (by simp)).1;omega
 | succ n ih=>
  intro l hd hl;by_cases hn:n∈l
  ·have hp:=(hl n hn).2;have h1:=ih (l.erase n) (hd.erase n) fun i hi=>by
    have hm:=List.mem_of_mem_erase hi;have hne:i≠n:=fun e=>by subst e;exact (List.Nodup.not_mem_erase hd) hi
    have:=hl i hm;exact⟨by omega,this.2⟩
   have h2:=List.length_erase_of_mem hn;simp only [cnt];rw [if_pos hp];omega
  ·have h1:=ih l hd fun i hi=>by
    have:=hl i hi;have hne:i≠n:=fun e=>hn (e ▸ hi);exact⟨by omega,this.2⟩
   simp only [cnt];omega
theorem cI_cnt {p:Nat→Prop} (x:Int) (mt:List Int) (h:∀i (hi:i<mt.length),x≤mt[i]→p i):cI x mt≤cnt p mt.length:=by
 have key:∀k,k≤mt.length→cI x (mt.take k)≤cnt p k:=by
  intro k
  induction k with
  | zero=>intro _;simp [cI]
  | succ k ih=>
   intro hk;have h1:=ih (by omega);have e:cI x (mt.take (k+1))=cI x (mt.take k)+(if x≤mt[k]'(by omega) then 1 else 0):=by
    rw [←List.take_append_getElem (show k<mt.length from by omega)];have app:∀a b:List Int,cI x (a++b)=cI x a+cI x b:=by
     intro a b
     induction a with
     | nil=>simp [cI]
     | cons y r ih=>simp only [List.cons_append,cI,ih];omega
    rw [app];simp [cI]
   rw [e];simp only [cnt];by_cases hx:x≤mt[k]'(by omega)
   ·rw [if_pos hx,if_pos (h k (by omega) hx)];omega
   ·rw [if_neg hx];omega
 have:=key mt.length (Nat.le_refl _)
 rwa [List.take_length] at this
theorem comTo_what (te pe co:Int) (log:List En) (mt:List Int):∀k,k≤log.length→zs_ te pe co log mt k=co∨∃x,∃h:x<log.length,zs_ te pe co log mt k=((x+1:Nat):Int)∧log[x].t=te∧pe<2*(cI ((x+1:Nat):Int) mt:Int):=by
 intro k
 induction k with
 | zero=>intro _;exact .inl rfl
 | succ k ih=>
  intro hk;simp only [zs_];by_cases h1:co<((k+1:Nat):Int)
  ·rw [if_pos h1];by_cases h2:(log.getD k En.zero).t=te∧pe<2*(cI ((k+1:Nat):Int) mt:Int)
   ·rw [if_pos h2];have hg:log.getD k En.zero=log[k]'(by omega):=by simp [List.getD,show k<log.length from by omega]
    rw [hg] at h2;exact .inr ⟨k,by omega,rfl,h2.1,h2.2⟩
   ·rw [if_neg h2];exact ih (by omega)
  ·rw [if_neg h1];exact .inl rfl
theorem NInv.commit {n:Nat} {s:Sys} {j:Nat} {x:Nd} (h:NInv n s j x) (hr:x.ro=2) (hl:x.mt.length=n) (hpe:x.pe=n):NInv n s j { x with co:=zs_ x.te x.pe x.co x.log x.mt x.log.length } :=by
 refine⟨h.te,h.lg,h.v0,h.v1,h.aks,h.won,h.le,?_⟩;obtain⟨a,b,c,d⟩:=h.le hr;show zq_ n s.g (s.lg j) (zs_ x.te x.pe x.co x.log x.mt x.log.length).toNat (s.tm j);rcases comTo_what x.te x.pe x.co x.log x.mt x.log.length (Nat.le_refl _) with e | ⟨q,hq,e,e1,e2⟩
 ·rw [e];exact h.co
 ·rw [e,Int.toNat_natCast];have hlog:x.log=s.g.LL (s.tm j):=h.lg.trans c;have hq':q<(s.g.LL (s.tm j)).length:=by rw [←hlog];exact hq
  have e1':(s.g.LL (s.tm j))[q].t=s.tm j:=by
   have:(s.g.LL (s.tm j))[q]=x.log[q]:=by congr 1;exact hlog.symm
   rw [this,e1,h.te]
  rw [c];refine zq_.decide a hq' e1' ?_;have hc:=cI_cnt (p:=fun i=>q<s.g.ack i (s.tm j)) ((q+1:Nat):Int) x.mt fun i hi hx=>by have:=d i hi;omega
  rw [hl] at hc;unfold Maj;omega
theorem NInv.wins {n:Nat} {s:Sys} {j:Nat} {x:Nd} (hA:AInv n s) (h:NInv n s j x) (hr:x.ro=1) (hte:0<x.te) (hnd:x.vs.Nodup) (hin:∀v∈x.vs,0≤v∧v<(n:Int)) (hmaj:(n:Int)<2*(x.vs.length:Int)) (mt:List Int) (hmt:∀i (h:i<mt.length),mt[i]≤0∨(i=j∧mt[i]≤(x.log.length:Int))):
  AInv n (s.lead j)∧NInv n (s.lead j) j { x with ro:=2,vs:= [],mt:=mt } ∧Ext s (s.lead j) j:=by
 obtain⟨hC,hV⟩:=h.aks hr;have hm:Maj n fun i=>s.V i (s.tm j)=some j:=by
  have hc:=cnt_list (p:=fun i=>s.V i (s.tm j)=some j) n (x.vs.map Int.toNat) (by
   rw [List.Nodup,List.pairwise_map];refine List.Pairwise.imp_of_mem (fun {a b} ha hb hab e=>hab ?_) hnd;have:=hin a ha;have:=hin b hb;omega) (fun i hi=>by
   obtain⟨v,hv,rfl⟩:=List.mem_map.1 hi;have:=hin v hv;refine⟨by omega,hV v.toNat ?_⟩;rw [show ((v.toNat:Nat):Int)=v from by omega];exact hv)
  rw [List.length_map] at hc;unfold Maj;omega
 have hne:¬s.g.el (s.tm j):=fun hel=>h.won hr ⟨hel,(hA.one hel hm).symm⟩;have hp:0<s.tm j:=by have:=h.te;omega
 refine⟨hA.lead j hne hC hm hp,⟨h.te,h.lg,h.v0,h.v1,fun hh=>by simp at hh,fun hh=>by simp at hh,fun _=>⟨.inl rfl,by simp [Sys.lead],?_,fun i hi=> ?_⟩,?_⟩,Ext.lead hne⟩
 ·show s.lg j=(s.g.elect (s.tm j) j (s.lg j)).LL (s.tm j);rw [s.g.elect_LL]
 ·show mt[i]≤((s.g.elect (s.tm j) j (s.lg j)).ack i (s.tm j):Int);rcases hmt i hi with h1 | ⟨rfl,h1⟩
  ·omega
  ·have:(s.g.elect (s.tm i) i (s.lg i)).ack i (s.tm i)=(s.lg i).length:=by simp [Gh.elect]
   rw [this,←h.lg];exact h1
 ·exact h.co.grows (Grows.elect _ _ hne)
theorem NInv.proposes {n:Nat} {s:Sys} {j:Nat} {x:Nd} (hA:AInv n s) (h:NInv n s j x) (hr:x.ro=2) (d:ByteArray) (mt:List Int) (hmt:∀i (h:i<mt.length),(∃h2:i<x.mt.length,mt[i]=x.mt[i])∨(i=j∧mt[i]=(x.log.length:Int)+1)):
  ∃s',AInv n s'∧NInv n s' j { x with log:=x.log++ [⟨x.te,d⟩],mt:=mt } ∧Ext s s' j:=by
 obtain⟨a,b,c,q⟩:=h.le hr;have he:(⟨x.te,d⟩:En).t=s.tm j:=h.te;have hE:=Ext.propose (s:=s) (k:=j) ⟨x.te,d⟩ b;refine⟨s.propose j ⟨x.te,d⟩,hA.propose j _ a c he,⟨h.te,?_,h.v0,h.v1,fun hh=>(by rw [hr] at hh;omega),fun hh=>(by rw [hr] at hh;omega),fun _=>⟨a,b,?_,fun i hi=> ?_⟩,?_⟩,hE⟩
 ·simp [Sys.propose];rw [h.lg,c]
 ·show (s.propose j ⟨x.te,d⟩).lg j=((s.g.prop (s.tm j) ⟨x.te,d⟩).tell j (s.tm j) _).LL (s.tm j);simp [Sys.propose,Gh.tell,Gh.prop]
 ·show mt[i]≤((s.propose j ⟨x.te,d⟩).g.ack i (s.tm j):Int);rcases hmt i hi with⟨h2,e⟩ | ⟨rfl,e⟩
  ·rw [e];have:=q i h2;have:=hE.gr.ack i _ a;omega
  ·rw [e,h.lg,c];simp [Sys.propose,Gh.tell];omega
 ·show zq_ n (s.propose j ⟨x.te,d⟩).g ((s.propose j ⟨x.te,d⟩).lg j) x.co.toNat (s.tm j);have e1:(s.propose j ⟨x.te,d⟩).lg j=s.lg j++ [⟨x.te,d⟩]:=by simp [Sys.propose];rw [c]
  rw [e1];exact (h.co.grows hE.gr).of (Nat.le_refl _) (has_grown (Has.refl _ _ h.co.len) _).symm
theorem NInv.asks {n:Nat} {s:Sys} {j:Nat} {x:Nd} (hA:AInv n s) (h:NInv n s j x):
  ∃s',AInv n s'∧NInv n s' j ⟨x.id,x.pe,x.te+1,j,x.co,1,x.log,[(j:Int)],[]⟩∧Ext s s' j∧s'.C (x.te+1) j=some x.log:=by
 have ht:s.tm j<x.te+1:=by have:=h.te;omega
 have e1:(s.term j (x.te+1)).tm j=x.te+1:=by simp [Sys.term]
 have A1:=hA.term j (x.te+1) (by omega);have hn1:(s.term j (x.te+1)).C ((s.term j (x.te+1)).tm j) j=none:=by rw [e1];exact hA.freshC ht
 have hl:yw_ s.g (s.lg j) (x.te+1-1):=(hA.lo j).1.mono (by have:=h.te;omega);have A2:=A1.ask j hn1 (by rw [e1];exact hl);have hv2:((s.term j (x.te+1)).ask j).V j (((s.term j (x.te+1)).ask j).tm j)=none:=by
  show s.V j ((s.term j (x.te+1)).tm j)=none;rw [e1];exact hA.fresh ht
 have hc2:((s.term j (x.te+1)).ask j).C (((s.term j (x.te+1)).ask j).tm j) j=some (s.lg j):=by
  show (if (s.term j (x.te+1)).tm j=(s.term j (x.te+1)).tm j∧j=j then some (s.lg j) else _)=_;rw [if_pos ⟨rfl,rfl⟩]
 have A3:=A2.vote j j (s.lg j) hv2 hc2 (.inr ⟨rfl,Nat.le_refl _⟩);have hX:=((Ext.term s j (x.te+1)).trans (Ext.ask hn1)).trans (Ext.vote (k:=j) hv2);refine⟨_,A3,⟨e1.symm,h.lg,fun hh=> ?_,fun k hh=> ?_,fun _=>⟨hc2,fun i hi=> ?_⟩,fun _ hh=> ?_,fun hh=> ?_,?_⟩,hX,?_⟩
 ·dsimp only at hh;omega
 ·dsimp only at hh;have:k=j:=by omega
  subst this;show (if k=k∧(s.term k (x.te+1)).tm k=(s.term k (x.te+1)).tm k then some k else _)=_;rw [if_pos ⟨rfl,rfl⟩]
 ·simp only [List.mem_singleton] at hi;have:i=j:=by omega
  subst this;show (if i=i∧(s.term i (x.te+1)).tm i=(s.term i (x.te+1)).tm i then some i else _)=_;rw [if_pos ⟨rfl,rfl⟩]
 ·have hel:s.g.el ((s.term j (x.te+1)).tm j):=hh.1;have hw:s.wh ((s.term j (x.te+1)).tm j)=j:=hh.2;rw [e1] at hel hw;have:=(hA.ld _ hel).2.1;rw [hw] at this;omega
 ·simp at hh
 ·show zq_ n s.g (s.lg j) x.co.toNat ((s.term j (x.te+1)).tm j);rw [e1];exact h.co.later (by omega)
 ·have:=hc2;have e3:((s.term j (x.te+1)).ask j).tm j=x.te+1:=e1;rw [e3] at this;rw [h.lg];exact this
end Go.Proofs.YtapfhhmimkkhnaaGreat
namespace Go.Proofs.YtapfhhmimkkhnaaGreat
open Go.RowKit Go.Maps
set_option linter.unusedVariables false
set_option maxRecDepth 100000
structure Mq where
 ki:Int
 fr:Int
 dst:Int
 te:Int
 ix:Int
 be:Int
 co:Int
 ye:Bool
def zZ_:List Mq→List Value
 | []=> []
 | s::r=> .int .i64 s.ki:: .int .i64 s.fr:: .int .i64 s.dst:: .int .i64 s.te:: .int .i64 s.ix:: .int .i64 s.be:: .slice none 0 0:: .int .i64 s.co:: .bool s.ye::zZ_ r
theorem flat9_append (l m:List Mq):zZ_ (l++m)=zZ_ l++zZ_ m:=by
 induction l with
 | nil=>rfl
 | cons x r ih=>simp only [List.cons_append,zZ_,ih]
def MR (w:World) (v:Value) (l:List Mq):Prop:=
 ∃a cap,v= .slice a l.length cap∧(l≠ []→∃b off,a=some ⟨b,off,none⟩∧b<w.heap.size∧
  ∀i (h:i<l.length),w.cell? ⟨b,off+i*9,none⟩=some (.int .i64 l[i].ki)∧w.cell? ⟨b,off+i*9+1,none⟩=some (.int .i64 l[i].fr)∧w.cell? ⟨b,off+i*9+2,none⟩=some (.int .i64 l[i].dst)∧w.cell? ⟨b,off+i*9+3,none⟩=some (.int .i64 l[i].te)∧w.cell? ⟨b,off+i*9+4,none⟩=some (.int .i64 l[i].ix)∧w.cell? ⟨b,off+i*9+5,none⟩=some (.int .i64 l[i].be)∧w.cell? ⟨b,off+i*9+6,none⟩=some (.slice none 0 0)∧w.cell? ⟨b,off+i*9+7,none⟩=some (.int .i64 l[i].co)∧w.cell? ⟨b,off+i*9+8,none⟩=some (.bool l[i].ye))
theorem MR.below {w w':World} {v:Value} {l:List Mq} (h:MR w v l) (hb:Below w.heap.size w w'):MR w' v l:=by
 obtain⟨a,cap,hv,hc⟩:=h;refine⟨a,cap,hv,fun hl=> ?_⟩;obtain⟨b,off,ha,hbl,hcell⟩:=hc hl;refine⟨b,off,ha,Nat.lt_of_lt_of_le hbl hb.size,fun i hi=> ?_⟩;obtain⟨c0,c1,c2,c3,c4,c5,c6,c7,c8⟩:=hcell i hi;exact⟨(hb.cell (p:=⟨b,off+i*9,none⟩) hbl).trans c0,(hb.cell (p:=⟨b,off+i*9+1,none⟩) hbl).trans c1,(hb.cell (p:=⟨b,off+i*9+2,none⟩) hbl).trans c2,(hb.cell (p:=⟨b,off+i*9+3,none⟩) hbl).trans c3,(hb.cell (p:=⟨b,off+i*9+4,none⟩) hbl).trans c4,(hb.cell (p:=⟨b,off+i*9+5,none⟩) hbl).trans c5,(hb.cell (p:=⟨b,off+i*9+6,none⟩) hbl).trans c6,(hb.cell (p:=⟨b,off+i*9+7,none⟩) hbl).trans c7,(hb.cell (p:=⟨b,off+i*9+8,none⟩) hbl).trans c8⟩
theorem ye_ {w:World} {base:Nat} {e:TypeId} {g cap n:Nat} {xs:List Value} (h:w.ownsRow base e 9 (.slice (some ⟨g,0,none⟩) n cap) n xs) (i:Nat) (hi:i<n) (j:Nat) (hj:j<9):
  (∃u,w.cell? ⟨g,i*9+j,none⟩=some u)∧w.frozen? ⟨g,i*9+j,none⟩=false:=by
 have hl:=h.1;refine⟨?_,h.frozenAt _⟩;rw [h.cellAt (i*9+j) (by omega)];exact⟨_,List.getElem?_eq_getElem (by omega)⟩


set_option maxHeartbeats 8000000
def zE_ (id te n b:Int):Nat→List Mq
 | 0=> []
 | k+1=>zE_ id te n b k++(if (k:Int)=id then [] else [⟨1,id,k,te,n,b,0,false⟩])
theorem asksTo_le (id te n b:Int) (k:Nat):(zE_ id te n b k).length≤k:=by
 induction k with
 | zero=>simp [zE_]
 | succ k ih=>simp only [zE_,List.length_append];split <;>simp <;>omega
theorem Tryz.info80:(Tryz.prog.info? 80).map (fun i=>(i.zero,i.size,i.bytes))=some (some (.agg zM),9,88):=by kernel_rfl
theorem wpList_append_msg (w:World) {ops:Array Oper} {rest:List Oper} {o:Oper} {a:Act} {Q:Exit→Act→World→Prop} (hgd:o.guard=none) (s x:Operand)
  (ho:o.op= .call ⟨.builtin .append,#[s,x],#[27,27]⟩) (hty:o.type=27)
  (base:Nat) (v:Value) (n:Nat) (zs:List Mq) (hs:a.eval s=v) (hown:w.ownsRow base 80 9 v n (zZ_ zs))
  (b:Nat) (q:Mq) (hx:a.eval x= .slice (some ⟨b,0,none⟩) 1 1) (hI:Box w b [q.ki,q.fr,q.dst,q.te,q.ix,q.be,(),q.co,q.ye]) (hn:n+1≤2000000) (hbase:base≤w.heap.size)
  (h:∀v' w',w'.ownsRow base 80 9 v' (n+1) (zZ_ (zs++ [q]))→w.grownBy w' v.ownBlock→wpList Tryz.prog ops Q rest (a.put o.dst v') w'):wpList Tryz.prog ops Q (o::rest) a w:=by
 obtain⟨i0,hi,hz0,hzs,hzb⟩:=info_parts Tryz.info80;refine wpList_append_own _ hgd s x 27 ho base 80 i0 (.agg zM) 9 88 Tryz.underlying27 hi hz0 hzs hzb rfl (by decide) v n (zZ_ zs) hs hown ⟨b,0,none⟩ 1 1 (zZ_ [q]) hx rfl ?_ ?_ (by unfold maxLen;omega) (by omega) hbase fun v' w' h1 h2 _=>h v' w' (by rw [flat9_append];exact h1) h2
 ·intro j u hj;rw [show (⟨b,0,none⟩:Addr).add j=⟨b,j,none⟩ from by simp [Addr.add];omega];exact hI.2.1 j u hj
 ·intro u hu;simp only [zZ_,List.mem_cons,List.not_mem_nil,or_false] at hu;rcases hu with rfl | rfl | rfl | rfl | rfl | rfl | rfl | rfl | rfl <;>rfl
theorem asksToOthers_any (id pe te vo co ro:Int) (vl vv vm:Value) (log:List En) (vs mt:List Int) (w:World) (hl:ER w vl log) (hv:IL w vv vs) (hm:IL w vm mt) (nl:log.length≤1048576) (hp0:0≤pe) (hp7:pe≤7):
  Calls Tryz.prog 154 #[.agg #[id,pe,te,vo,vl,co,ro,vv,vm]] w fun e w'=>∃u,e= .returned u∧w'.ownsRow w.heap.size 80 9 u (zE_ id te log.length (tmAt log log.length) pe.toNat).length (zZ_ (zE_ id te log.length (tmAt log log.length) pe.toNat))∧Below w.heap.size w w':=by
 obtain⟨pn,rfl⟩:=Int.eq_ofNat_of_zero_le hp0;rw [Int.toNat_natCast];have KT:=fun W (h:Below w.heap.size w W)=>termAt_any id pn te vo co ro vl vv vm log vs mt log.length W (hl.below h) (hv.below h) (hm.below h) (Nat.le_refl _) nl;have MT:=fun (k:Int) W=>messageTo_any id pn te vo co ro k 1 vl vv vm W;obtain⟨la,lc,rfl,hlc⟩:=hl;obtain⟨va,vc,rfl,hvc⟩:=hv;obtain⟨ma,mc,rfl,hmc⟩:=hm;clear hlc hvc hmc;generalize tmAt log log.length=tb at*;have hB:=zb_ w (.cells #[id,pn,te,vo,.slice la log.length lc,co,ro,.slice va vs.length vc,.slice ma mt.length mc] 42);have X:=Box.new w #[id,pn,te,vo,.slice la log.length lc,co,ro,.slice va vs.length vc,.slice ma mt.length mc] 42;obtain⟨W0,hW0⟩:∃W0,W0=w.alloc (.cells #[id,pn,te,vo,.slice la log.length lc,co,ro,.slice va vs.length vc,.slice ma mt.length mc] 42):=⟨_,rfl⟩;rw [←hW0] at hB X;have hz0:=X.1;go_enter Tryz.func154,Tryz.ntmps154;go_wp2;rw [←hW0];clear hW0
 go_loopw [3,8] (fun z i wr=>∃k:Nat,k≤pn∧i= .int .i64 k∧wr.ownsRow W0.heap.size 80 9 z (zE_ id te log.length tb k).length (zZ_ (zE_ id te log.length tb k))∧Below W0.heap.size W0 wr) (fun _ i _=>pn-(intOf i).toNat)
 case atStart=>exact⟨0,Nat.zero_le _,rfl,World.ownsRow_nil _ _ _ _,Below.refl _ _⟩
 case round=>
  obtain⟨k,hk,rfl,hown,hb⟩:=hrel;have Xr:=X.below hb;have hBr:=za_ hB hb;have hzr:=hb.size;clear X;obtain⟨za,zc,rfl⟩:=ze_ hown;obtain⟨xl,x0,x1,x2,x3,x4,x5,x6,x7,x8⟩:=Xr.e9;by_cases hlt:k<pn
  ·by_cases hid:(k:Int)=id
   ·have HA:Hid (zE_ id te log.length tb (k+1)=zE_ id te log.length tb k):=by show _=_;simp [zE_,hid]
    have hid2:((k:Int)==id)=true:=by simp [hid]
    have HO:Hid _:=hown;have hal:=asksTo_le id te log.length tb k;generalize zE_ id te log.length tb k=az at*;clear hown KT MT;go_wp2;go_roundw
    case rel=>exact⟨k+1,by omega,by go_num,by rw [HA.out];exact HO.out,hb⟩
    case measure=>simp [intOf];omega
   ·have HA:Hid (zE_ id te log.length tb (k+1)=zE_ id te log.length tb k++ [⟨1,id,k,te,log.length,tb,0,false⟩]):=by show _=_;simp [zE_,hid]
    have hid2:((k:Int)==id)=false:=by simp [hid]
    have hal:=asksTo_le id te log.length tb k;generalize zE_ id te log.length tb k=az at*;go_wp2_with fail;refine (MT _ _).mono ?_;rintro e w1 ⟨rfl,hb1⟩;replace Xr:=Xr.below hb1;replace hBr:=za_ hBr hb1;replace hb:=za_ hb hb1;replace hown:=zd_ hown hb1;have hz1:=hb1.size;clear MT hb1 xl x0 x1 x2 x3 x4 x5 x6 x7 x8;obtain⟨xl,x0,x1,x2,x3,x4,x5,x6,x7,x8⟩:=Xr.e9;have lz:=zg_ hown;have BA:=zb_ w1 (.cells #[(1:Int),id,k,te,log.length,(0:Int),(),(0:Int),false] 80);have MB:=Box.new w1 #[(1:Int),id,k,te,log.length,(0:Int),(),(0:Int),false] 80;have hBa:=za_ hBr BA;go_wp2_with fail;refine (KT _ hBa).mono ?_;rintro e w2 ⟨rfl,hb2⟩;replace Xr:=(Xr.below BA).below hb2;replace hBr:=za_ hBa hb2;replace hb:=za_ (za_ hb BA) hb2;replace hown:=zd_ (zd_ hown BA) hb2;replace MB:=MB.below hb2;have hz2:=hb2.size;simp only [World.size_alloc] at hz2;clear KT BA hBa hb2 xl x0 x1 x2 x3 x4 x5 x6 x7 x8;obtain⟨ml,m0,m1,m2,m3,m4,m5,m6,m7,m8⟩:=MB.e9;have f5:=MB.2.2 5;go_upto_region 9 with fail;obtain⟨W2,hW2⟩:∃W2,W2=w2.setCell ⟨w1.heap.size,5,none⟩ (.int .i64 tb):=⟨_,rfl⟩;have hC:Chg (fun q=>q=w1.heap.size) w2 W2:=by rw [hW2];exact Chg.setCell (S:=fun q=>q=w1.heap.size) (Chg.refl _ _) rfl _
    have M2:Box W2 w1.heap.size [(1:Int),id,k,te,log.length,tb,(),(0:Int),false]:=by rw [hW2];exact MB.set 5 _ (by simp)
    replace hown:=hC.owns hown (fun g hg e=>by have:=lz g hg;omega);replace hb:=Below.trans hb (hC.below (B:=W0.heap.size) hb.size (fun q hq=>by omega));replace hBr:=Below.trans hBr (hC.below (B:=w.heap.size) hBr.size (fun q hq=>by omega));have hz3:w2.heap.size≤W2.heap.size:=hC.size;have hz4:=hb.size;rw [←hW2];clear hW2 hC MB Xr ml m0 m1 m2 m3 m4 m5 m6 m7 m8 f5;obtain⟨ml,m0,m1,m2,m3,m4,m5,m6,m7,m8⟩:=M2.e9;have BA:=zb_ W2 (.cells #[(1:Int),id,k,te,log.length,tb,(),(0:Int),false] 80);have MB:=Box.new W2 #[(1:Int),id,k,te,log.length,tb,(),(0:Int),false] 80;have o2:=zd_ hown BA;replace hb:=za_ hb BA;clear hown hBr M2;go_wp2_with (at_builtin;refine wpList_append_msg _ rfl _ _ rfl rfl W0.heap.size _ az.length az rfl o2 W2.heap.size ⟨1,id,k,te,log.length,tb,0,false⟩ rfl MB (by omega) (by simp;omega) ?_;intro v' w' hown hgr;refine zz_.go ?_);replace hb:=hb.grown hgr (by simp;omega) (fun j hj=>(o2.lt j hj).1);clear hgr o2 MB BA ml m0 m1 m2 m3 m4 m5 m6 m7 m8;unfold zz_;go_wp2;go_roundw
    case rel=>exact⟨k+1,by omega,by go_num,by rw [HA.out,List.length_append];exact hown,hb⟩
    case measure=>simp [intOf];omega
  ·obtain rfl:k=pn:=by omega
   clear KT MT;go_wp2;go_ret;exact⟨_,rfl,zf_ hown (by omega),hBr⟩
theorem bsNil_any (x:Int) (w:World):Calls Tryz.prog 168 #[(),x] w fun e w'=>e= .returned (.tuple #[(0:Int),false])∧Below w.heap.size w w':=by
 go_enter Tryz.func168,Tryz.ntmps168;go_wp2
 go_loopw [7,8] (fun i j wr=>i= .int .i64 0∧j= .int .i64 0∧wr=w) (fun _ _ _=>0)
 case atStart=>exact⟨rfl,rfl,rfl⟩
 case round=>
  obtain⟨rfl,rfl,rfl⟩:=hrel;go_wp2;go_ret2;exact⟨rfl,Below.refl _ _⟩
theorem insNil_any (x:Int) (w:World) (b:Nat) (hv:IL w (.slice (some ⟨b,0,none⟩) 1 1) [x]):Calls Tryz.prog 169 #[(),(0:Int),.slice (some ⟨b,0,none⟩) 1 1] w fun e w'=>∃u,e= .returned u∧w'.ownsRow w.heap.size 3 1 u 1 ([x].map (.int .i64))∧Below w.heap.size w w':=by
 have o0:w.ownsRow w.heap.size 3 1 (.slice none 0 0) 0 (([]:List Int).map (.int .i64)):=World.ownsRow_nil _ _ _ _;go_enter Tryz.func169,Tryz.ntmps169;go_wp2_with (at_builtin;refine zw_ _ rfl _ _ rfl rfl w.heap.size _ 0 [] rfl o0 _ [x] rfl hv (by simp) (by simp) ?_;intro v' w' hown hgr;refine zz_.go ?_);replace hgr:w.grownBy w' none:=hgr;have hb:=(Below.refl w.heap.size w).grown hgr (Nat.le_refl _) (fun j hj=>by cases hj);obtain⟨ua,uc,rfl⟩:=ze_ hown;unfold zz_;go_wp2;go_ret;exact⟨_,rfl,hown,hb⟩
theorem mk1_run (w:World):(Sem.run Tryz.prog (Instr.makeSlice 40 (.int .i64 1) (.int .i64 1)) w)= .ok (.slice (some ⟨w.heap.size,0,none⟩) 1 1) (w.alloc (.cells #[(0:Int)] 3)):=by kernel_rfl
theorem leading_any (te vo co ro:Int) (la:Option Addr) (ln lc:Nat) (va:Option Addr) (vn vc:Nat) (w:World):
  Calls Tryz.prog 170 #[.agg #[(0:Int),(1:Int),te,vo,.slice la ln lc,co,ro,.slice va vn vc,()]] w fun e w'=>∃u,e= .returned (.agg #[(0:Int),(1:Int),te,vo,.slice la ln lc,co,(2:Int),(),u])∧w'.ownsRow w.heap.size 3 1 u 1 ([(ln:Int)].map (.int .i64))∧Below w.heap.size w w':=by
 have MK:=mk1_run;go_enter Tryz.func170,Tryz.ntmps170;go_wp2;obtain⟨W0,hW0⟩:∃W0,W0=(w.alloc (.cells #[(0:Int),(1:Int),te,vo,.slice la ln lc,co,(2:Int),(),.slice (some ⟨w.heap.size+1+1,0,none⟩) 1 1] 42)).alloc (.cells #[(0:Int),(1:Int),te,vo,.slice la ln lc,co,(2:Int),(),.slice (some ⟨w.heap.size+1+1,0,none⟩) 1 1] 42):=⟨_,rfl⟩;have hs:W0.heap.size=w.heap.size+1+1:=by rw [hW0];simp
 have hb:Below w.heap.size w W0:=by rw [hW0];exact below2 _ _ _
 have ho:=World.ownsRow_lit (base:=w.heap.size) (size:=1) (e:=3) W0 #[(ln:Int)] 1 (by omega) (by simp [maxLen]) (by simp);rw [hs] at ho;exact bodyPost_ret (v:= .agg #[(0:Int),(1:Int),te,vo,.slice la ln lc,co,(2:Int),(),.slice (some ⟨w.heap.size+1+1,0,none⟩) 1 1]) (by simp [results,Tryz.results170,go_sem]) rfl ⟨_,rfl,by rw [←hW0];exact ho,by rw [←hW0];exact za_ hb (zb_ _ _)⟩
end Go.Proofs.YtapfhhmimkkhnaaGreat
