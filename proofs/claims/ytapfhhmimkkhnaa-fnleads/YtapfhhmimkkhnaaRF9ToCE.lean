/-
  Agreement, plainly: a cluster that fits, and the four promises of it.
  Agreement, plainly: a cluster that fits goes on to fit when one of its nodes does something.
  A cluster made of the law's own: toRaftNodeS, toRaftMsgS, toLeadS, toCluster.
  A cluster made of the law's own: toRaftNodeS.
  Clusters that are the same: eqRaftNodeS, eqRaftMsgS, eqLeadS, eqCluster.
  A cluster made of the law's own: toCluster.
-/
import Derived.Test.YtapfhhmimkkhnaaF5ToRF8
import Derived.Test.YtapfhhmimkkhnaaCA
import Derived.Test.YtapfhhmimkkhnaaN1ToA3
import Derived.Test.YtapfhhmimkkhnaaQ3ToQD
namespace Go.Proofs.Ytapfhhmimkkhnaa
set_option linter.unusedVariables false
theorem NInv.matched {n:Nat} {s:Sys} {j:Nat} {x:Nd} (h:NInv n s j x) (hr:x.ro=2) (mt:List Int) (hmt:∀i (hi:i<mt.length),(∃h2:i<x.mt.length,mt[i]≤x.mt[i])∨mt[i]≤(s.g.ack i (s.tm j):Int)):NInv n s j { x with mt:=mt } :=by
 obtain⟨a,b,c,d⟩:=h.le hr;refine⟨h.te,h.lg,h.v0,h.v1,h.aks,h.won,fun _=>⟨a,b,c,fun i hi=> ?_⟩,h.co⟩;rcases hmt i hi with⟨h2,e⟩ | e
 ·have:=d i h2;show mt[i]≤_;omega
 ·exact e
theorem NInv.counts {n:Nat} {s:Sys} {j:Nat} {x:Nd} (h:NInv n s j x) (hr:x.ro=1) (vs:List Int) (k:Nat) (hk:s.V k (s.tm j)=some j) (hvs:∀v∈vs,v∈x.vs∨v=(k:Int)):NInv n s j { x with vs:=vs } :=by
 obtain⟨a,b⟩:=h.aks hr;refine⟨h.te,h.lg,h.v0,h.v1,fun _=>⟨a,fun i hi=> ?_⟩,h.won,h.le,h.co⟩;rcases hvs _ hi with e | e
 ·exact b i e
 ·have:i=k:=by omega
  subst this;exact hk
theorem MInv.sent {n:Nat} {s:Sys} {j:Nat} {x:Nd} {m:Ms} (hA:AInv n s) (h:NInv n s j x) (hr:x.ro=2) (hk:m.ki=3) (hf:m.fr=(j:Int)) (hte:m.te=x.te) (hix:m.ix.toNat≤x.log.length) (hbe:m.be=tmAt x.log m.ix.toNat) (hco:m.co=x.co) (k:Nat) (hes:m.es=(x.log.drop m.ix.toNat).take k):MInv n s m:=by
 obtain⟨a,b,c,d⟩:=h.le hr;have hlog:x.log=s.g.LL (s.tm j):=h.lg.trans c;have htm:m.te=s.tm j:=hte.trans h.te;refine⟨fun hh=>by omega,fun hh=>by omega,fun _=> ?_,fun hh=>by omega⟩;rw [htm,←hlog];refine⟨a,by rw [b,hf];simp,hix,fun i hi=> ?_,hbe,?_⟩
 ·have hl:i<((x.log.drop m.ix.toNat).take k).length:=by rw [←hes];exact hi
  simp only [List.length_take,List.length_drop] at hl;refine⟨by omega,?_⟩;have:m.es[i]=((x.log.drop m.ix.toNat).take k)[i]'(by simp;omega):=by congr 1
  rw [this];simp
 ·rw [hco,h.lg];exact h.co
def Fits (n:Nat) (N:List Nd) (M:List Ms) (L:List Ld):Prop:=
 ∃s,AInv n s∧N.length=n∧(∀j (h:j<N.length),NInv n s j N[j])∧(∀m∈M,MInv n s m)∧∀l∈L,s.g.el l.t∧(s.wh l.t:Int)=l.n
def Sys.none:Sys:=⟨fun _=>0,fun _=> [],⟨fun _=>False,fun _=> [],fun _=> [],fun _ _=>0⟩,fun _=>0,fun _ _=>Option.none,fun _ _=> [],fun _ _=>Option.none⟩
theorem Fits.new (n:Nat) (N:List Nd) (hn:N.length=n) (hN:∀j (h:j<N.length),N[j].te=0∧N[j].vo= -1∧N[j].co=0∧N[j].ro=0∧N[j].log= []):Fits n N [] []:=by
 have hl0:yj_ Sys.none.g [] 0:=⟨fun i h=>by simp at h,fun i j h=>by simp at h,fun i h=>by simp at h⟩;refine⟨Sys.none,⟨fun j T k e=>(by cases e),fun T k P e=>(by cases e),fun j=>⟨hl0,?_⟩,(fun T e=>False.elim e),fun T _=>⟨rfl,fun _=>rfl⟩,fun j T=>⟨Nat.le_refl _,fun _=>rfl⟩,?_⟩,hn,fun j h=> ?_,fun m hm=>by simp at hm,fun l hl=>by simp at hl⟩
 ·intro T x hT hx;simp [Sys.none] at hx
 ·intro T U x hTU hel;exact hel.elim
 ·obtain⟨a,b,c,d,e⟩:=hN j h;exact⟨a,e,fun _=>rfl,fun k hk=>by omega,fun hr=>by omega,fun hr=>by omega,fun hr=>by omega,.inl (by rw [c];rfl)⟩
theorem Fits.election {n:Nat} {N:List Nd} {M:List Ms} {L:List Ld} (h:Fits n N M L) (a b:Ld) (ha:a∈L) (hb:b∈L) (e:a.t=b.t):a.n=b.n:=by
 obtain⟨s,_,_,_,_,hL⟩:=h;have h1:=(hL a ha).2;have h2:=(hL b hb).2;rw [e] at h1;omega
theorem Fits.leads {n:Nat} {N:List Nd} {M:List Ms} {L:List Ld} (h:Fits n N M L) (i j:Nat) (hi:i<N.length) (hj:j<N.length) (ri:N[i].ro=2) (rj:N[j].ro=2) (e:N[i].te=N[j].te):i=j:=by
 obtain⟨s,_,_,hN,_,_⟩:=h;have h1:=((hN i hi).le ri).2.1;have h2:=((hN j hj).le rj).2.1;rw [←(hN i hi).te] at h1;rw [←(hN j hj).te,←e] at h2;omega
theorem Fits.matching {n:Nat} {N:List Nd} {M:List Ms} {L:List Ld} (h:Fits n N M L) (i j k:Nat) (hi:i<N.length) (hj:j<N.length) (h1:k<N[i].log.length) (h2:k<N[j].log.length) (e:N[i].log[k].t=N[j].log[k].t):N[i].log.take (k+1)=N[j].log.take (k+1):=by
 obtain⟨s,hA,_,hN,_,_⟩:=h;have a:Ok s.g.LL N[i].log:=by rw [(hN i hi).lg];exact (hA.lo i).1.1
 have b:Ok s.g.LL N[j].log:=by rw [(hN j hj).lg];exact (hA.lo j).1.1
 exact (Go.Proofs.Ytapfhhmimkkhnaa.matching a b k h1 h2 e).2.2
theorem Fits.safety {n:Nat} {N:List Nd} {M:List Ms} {L:List Ld} (h:Fits n N M L) (i j c:Nat) (hi:i<N.length) (hj:j<N.length) (h1:c≤N[i].co.toNat) (h2:c≤N[j].co.toNat):Has N[i].log N[j].log c:=by
 obtain⟨s,hA,_,hN,_,_⟩:=h;have a:=(hN i hi).co;have b:=(hN j hj).co;rw [←(hN i hi).lg] at a;rw [←(hN j hj).lg] at b;by_cases hcd:N[i].co.toNat≤N[j].co.toNat
 ·exact (zn_.same hA.cm hA.hEL a b hcd).mono h1
 ·exact ((zn_.same hA.cm hA.hEL b a (by omega)).mono h2).symm
def FitsS (n:Nat) (s:Sys) (N:List Nd) (M:List Ms) (L:List Ld):Prop:=
 AInv n s∧N.length=n∧(∀j (h:j<N.length),NInv n s j N[j])∧(∀m∈M,MInv n s m)∧∀l∈L,s.g.el l.t∧(s.wh l.t:Int)=l.n
theorem Fits.to {n:Nat} {N:List Nd} {M:List Ms} {L:List Ld} (h:Fits n N M L):∃s,FitsS n s N M L:=h
theorem FitsS.fits {n:Nat} {s:Sys} {N:List Nd} {M:List Ms} {L:List Ld} (h:FitsS n s N M L):Fits n N M L:=⟨s,h⟩
theorem FitsS.step {n:Nat} {s s':Sys} {N:List Nd} {M M':List Ms} {L L':List Ld} {j:Nat} {x:Nd} (h:FitsS n s N M L) (hA:AInv n s') (e:Ext s s' j) (hx:NInv n s' j x) (hM:∀m∈M',m∈M∨MInv n s' m) (hL:∀l∈L',l∈L∨(s'.g.el l.t∧(s'.wh l.t:Int)=l.n)):FitsS n s' (N.set j x) M' L':=by
 obtain⟨_,hn,hN,hm,hl⟩:=h;refine⟨hA,by simp [hn],fun i hi=> ?_,fun m hm'=> ?_,fun l hl'=> ?_⟩
 ·have hi':i<N.length:=by simpa using hi
  by_cases hij:i=j
  ·subst hij;simpa using hx
  ·have:(N.set j x)[i]=N[i]:=by rw [List.getElem_set_ne];exact fun q=>hij q.symm
   rw [this];exact (hN i hi').ext e hij
 ·rcases hM m hm' with q | q
  ·exact (hm m q).ext e
  ·exact q
 ·rcases hL l hl' with q | q
  ·obtain⟨a,b⟩:=hl l q;exact⟨e.gr.el _ a,by rw [e.wh _ a];exact b⟩
  ·exact q
theorem Fits.net {n:Nat} {N:List Nd} {M M':List Ms} {L:List Ld} (h:Fits n N M L) (hM:∀m∈M',m∈M):Fits n N M' L:=by
 obtain⟨s,a,b,c,d,e⟩:=h;exact⟨s,a,b,c,fun m hm=>d m (hM m hm),e⟩
theorem Fits.crash {n:Nat} {N:List Nd} {M:List Ms} {L:List Ld} (h:Fits n N M L) (j:Nat) (hj:j<N.length):Fits n (N.set j { foN N[j] with co:=0 }) M L:=by
 obtain⟨s,hs⟩:=h.to;exact (hs.step hs.1 (Ext.refl s j) (hs.2.2.1 j hj).crash (fun m q=> .inl q) (fun l q=> .inl q)).fits
theorem Fits.send {n:Nat} {N:List Nd} {M:List Ms} {L:List Ld} (h:Fits n N M L) (M':List Ms) (hM:∀s,FitsS n s N M L→∀m∈M',m∈M∨MInv n s m):Fits n N M' L:=by
 obtain⟨s,hs⟩:=h.to;obtain⟨a,b,c,d,e⟩:=hs;refine⟨s,a,b,c,fun m hm=> ?_,e⟩;rcases hM s ⟨a,b,c,d,e⟩ m hm with q | q
 ·exact d m q
 ·exact q
end Go.Proofs.Ytapfhhmimkkhnaa
namespace Go.Proofs.Ytapfhhmimkkhnaa
open Go.RowKit Go.Maps
set_option linter.unusedVariables false
set_option maxRecDepth 100000
def zz_ {α:Type} (P:World→Nat→α→Prop) (B:α→Nat→Prop) (w:World) (lo hi:Nat) (l:List α):Prop:=
 lo≤hi∧(∀i (h:i<l.length),(∃c,lo≤c∧P w c l[i])∧∀b,B l[i] b→lo≤b∧b<hi)∧∀i j (h1:i<l.length) (h2:j<l.length),i≠j→∀b,B l[i] b→¬B l[j] b
theorem zz_.nil {α:Type} {P:World→Nat→α→Prop} {B:α→Nat→Prop} {w:World} {lo hi:Nat} (h:lo≤hi):zz_ P B w lo hi []:=⟨h,fun i h=>by simp at h,fun i j h=>by simp at h⟩
theorem zz_.hi {α:Type} {P:World→Nat→α→Prop} {B:α→Nat→Prop} {w:World} {lo hi hi':Nat} {l:List α} (h:zz_ P B w lo hi l) (hh:hi≤hi'):zz_ P B w lo hi' l:=
 ⟨Nat.le_trans h.1 hh,fun i hi=>⟨(h.2.1 i hi).1,fun b hb=>⟨((h.2.1 i hi).2 b hb).1,Nat.lt_of_lt_of_le ((h.2.1 i hi).2 b hb).2 hh⟩⟩,h.2.2⟩
theorem zz_.lo {α:Type} {P:World→Nat→α→Prop} {B:α→Nat→Prop} {w:World} {lo lo' hi:Nat} {l:List α} (h:zz_ P B w lo hi l) (hh:lo'≤lo):zz_ P B w lo' hi l:=by
 refine⟨Nat.le_trans hh h.1,fun i hi=>⟨?_,fun b hb=>⟨Nat.le_trans hh ((h.2.1 i hi).2 b hb).1,((h.2.1 i hi).2 b hb).2⟩⟩,h.2.2⟩;obtain⟨c,hc,hp⟩:=(h.2.1 i hi).1;exact⟨c,Nat.le_trans hh hc,hp⟩
theorem zz_.ends {α:Type} {P:World→Nat→α→Prop} {B:α→Nat→Prop} {w:World} {lo hi:Nat} {l:List α} (h:zz_ P B w lo hi l):lo≤hi:=h.1
theorem zz_.at {α:Type} {P:World→Nat→α→Prop} {B:α→Nat→Prop} {w:World} {lo hi:Nat} {l:List α} (h:zz_ P B w lo hi l) (i:Nat) (hi':i<l.length):∃b,lo≤b∧P w b l[i]∧∀b,B l[i] b→lo≤b∧b<hi:=by
 obtain⟨⟨c,hc,hp⟩,hb⟩:=h.2.1 i hi';exact⟨c,hc,hp,hb⟩
theorem zz_.mapI {α:Type} {P:World→Nat→α→Prop} {B:α→Nat→Prop} {w w':World} {lo hi:Nat} {l:List α} (h:zz_ P B w lo hi l) (f:∀i (h:i<l.length) c,P w c l[i]→(∀b,B l[i] b→lo≤b∧b<hi)→P w' c l[i]):zz_ P B w' lo hi l:=by
 refine⟨h.1,fun i hi=>⟨?_,(h.2.1 i hi).2⟩,h.2.2⟩;obtain⟨c,hc,hp⟩:=(h.2.1 i hi).1;exact⟨c,hc,f i hi c hp (h.2.1 i hi).2⟩
theorem zz_.map {α:Type} {P:World→Nat→α→Prop} {B:α→Nat→Prop} {w w':World} {lo hi:Nat} {l:List α} (h:zz_ P B w lo hi l) (f:∀c x,P w c x→(∀b,B x b→lo≤b∧b<hi)→P w' c x):zz_ P B w' lo hi l:=h.mapI fun i hi c hp hb=>f c _ hp hb
theorem zz_.put {α:Type} {P:World→Nat→α→Prop} {B:α→Nat→Prop} {w:World} {lo hi:Nat} {l:List α} (h:zz_ P B w lo hi l) (j:Nat) (x:α) (hp:∃c,lo≤c∧P w c x) (hb:∀b,B x b→lo≤b∧b<hi) (hd:∀i (h:i<l.length),i≠j→∀b,B x b→¬B l[i] b):zz_ P B w lo hi (l.set j x):=by
 refine⟨h.1,fun i hi'=> ?_,fun i k h1 h2 hik b=> ?_⟩
 ·simp only [List.length_set] at hi';by_cases hij:j=i
  ·subst hij;simp only [List.getElem_set_self];exact⟨hp,hb⟩
  ·simp only [List.getElem_set_ne hij];exact h.2.1 i hi'
 ·simp only [List.length_set] at h1 h2;by_cases hij:j=i
  ·subst hij;simp only [List.getElem_set_self,List.getElem_set_ne hik];exact hd k h2 (fun e=>hik e.symm) b
  ·simp only [List.getElem_set_ne hij];by_cases hjk:j=k
   ·subst hjk;simp only [List.getElem_set_self];exact fun h3 h4=>hd i h1 hik b h4 h3
   ·simp only [List.getElem_set_ne hjk];exact h.2.2 i k h1 h2 hik b
theorem zz_.more {α:Type} {P:World→Nat→α→Prop} {B:α→Nat→Prop} {w:World} {lo hi:Nat} {l:List α} {x:α} (h:zz_ P B w lo hi l) (hp:∃c,lo≤c∧P w c x) (hb:∀b,B x b→lo≤b∧b<hi) (hd:∀i (h:i<l.length),∀b,B x b→¬B l[i] b):zz_ P B w lo hi (l++ [x]):=by
 refine⟨h.1,fun i hi'=> ?_,fun i k h1 h2 hik b=> ?_⟩
 ·simp only [List.length_append,List.length_singleton] at hi';by_cases hil:i<l.length
  ·simp only [List.getElem_append_left hil];exact h.2.1 i hil
  ·obtain rfl:i=l.length:=by omega
   simp only [List.getElem_append_right (Nat.le_refl _),Nat.sub_self,List.getElem_cons_zero];exact⟨hp,hb⟩
 ·simp only [List.length_append,List.length_singleton] at h1 h2;by_cases hil:i<l.length
  ·simp only [List.getElem_append_left hil];by_cases hkl:k<l.length
   ·simp only [List.getElem_append_left hkl];exact h.2.2 i k hil hkl hik b
   ·obtain rfl:k=l.length:=by omega
    simp only [List.getElem_append_right (Nat.le_refl _),Nat.sub_self,List.getElem_cons_zero];exact fun h3 h4=>hd i hil b h4 h3
  ·obtain rfl:i=l.length:=by omega
   have hkl:k<l.length:=by omega
   simp only [List.getElem_append_right (Nat.le_refl _),Nat.sub_self,List.getElem_cons_zero,List.getElem_append_left hkl];exact hd k hkl b
theorem zz_.push {α:Type} {P:World→Nat→α→Prop} {B:α→Nat→Prop} {w:World} {lo hi hi':Nat} {l:List α} {x:α} (h:zz_ P B w lo hi l) (hp:P w hi x) (hb:∀b,B x b→hi≤b∧b<hi') (hh:hi≤hi'):zz_ P B w lo hi' (l++ [x]):=
 (h.hi hh).more ⟨hi,h.1,hp⟩ (fun b hb'=>⟨Nat.le_trans h.1 (hb b hb').1,(hb b hb').2⟩) (fun i hi b h1 h2=>by have:=(h.2.1 i hi).2 b h2;have:=hb b h1;omega)
theorem zz_.out {α:Type} {P:World→Nat→α→Prop} {B:α→Nat→Prop} {w:World} {lo hi:Nat} {l:List α} (h:zz_ P B w lo hi l) (k:Nat):zz_ P B w lo hi (l.eraseIdx k):=by
 have e:∀i (hi:i<(l.eraseIdx k).length),∃j,∃hj:j<l.length,(l.eraseIdx k)[i]=l[j]∧j=if i<k then i else i+1:=fun i hi=>by
  have hl:(l.eraseIdx k).length≤l.length:=List.length_eraseIdx_le l k;by_cases hik:i<k
  ·exact⟨i,by omega,by rw [List.getElem_eraseIdx];simp [hik],by simp [hik]⟩
  ·have hlen:=hi;rw [List.length_eraseIdx] at hlen;have hj:i+1<l.length:=by split at hlen <;>omega
   exact⟨i+1,hj,by rw [List.getElem_eraseIdx];simp [hik],by simp [hik]⟩
 refine⟨h.1,fun i hi'=> ?_,fun i j h1 h2 hij b=> ?_⟩
 ·obtain⟨q,hq,e1,_⟩:=e i hi';rw [e1];exact h.2.1 q hq
 ·obtain⟨q,hq,e1,e2⟩:=e i h1;obtain⟨r,hr,e3,e4⟩:=e j h2;rw [e1,e3];refine h.2.2 q r hq hr ?_ b;intro he;apply hij;rw [e2,e4] at he;split at he <;>split at he <;>omega
def PN (w:World) (b:Nat) (x:Nv):Prop:=OwnN w b (.slice x.la x.n.log.length x.lc) (.slice x.va x.n.vs.length x.vc) (.slice x.ma x.n.mt.length x.mc) x.n.log x.n.vs x.n.mt
def BN (x:Nv) (b:Nat):Prop:=NB (.slice x.la x.n.log.length x.lc) (.slice x.va x.n.vs.length x.vc) (.slice x.ma x.n.mt.length x.mc) b
def PM (w:World) (b:Nat) (x:Mv):Prop:=w.ownsRow b 34 2 (.slice x.ea x.q.es.length x.ec) x.q.es.length (zE_ x.q.es)
def BM (x:Mv) (b:Nat):Prop:=(Value.slice x.ea x.q.es.length x.ec).ownBlock=some b
theorem zz_.belowN {w w':World} {lo hi:Nat} {l:List Nv} (h:zz_ PN BN w lo hi l) (hb:Below w.heap.size w w'):zz_ PN BN w' lo hi l:=h.map fun c x hp _=>OwnN.below hp hb
theorem zz_.chgN {w w':World} {S:Nat→Prop} {lo hi:Nat} {l:List Nv} (h:zz_ PN BN w lo hi l) (hc:Chg S w w') (hs:∀b,S b→b<lo∨hi≤b):zz_ PN BN w' lo hi l:=h.map fun c x hp hb=>OwnN.chg hp hc (fun b h1 h2=>by have:=hb b h1;have:=hs b h2;omega)
theorem PN.in {w:World} {b:Nat} {x:Nv} (h:PN w b x):∀g,BN x g→b≤g∧g<w.heap.size:=fun g hg=>OwnN.lt h g hg
theorem PN.ne {w:World} {b:Nat} {x:Nv} (h:PN w b x):NE w x:=⟨OwnN.er h,OwnN.iv h,OwnN.im h⟩
theorem zz_.belowM {w w':World} {lo hi:Nat} {l:List Mv} (h:zz_ PM BM w lo hi l) (hb:Below w.heap.size w w'):zz_ PM BM w' lo hi l:=h.map fun c x hp _=>zd_ hp hb
theorem zz_.chgM {w w':World} {S:Nat→Prop} {lo hi:Nat} {l:List Mv} (h:zz_ PM BM w lo hi l) (hc:Chg S w w') (hs:∀b,S b→b<lo∨hi≤b):zz_ PM BM w' lo hi l:=h.map fun c x hp hb=>hc.owns hp (fun b h1 h2=>by have:=hb b h1;have:=hs b h2;omega)
theorem PM.in {w:World} {b:Nat} {x:Mv} (h:PM w b x):∀g,BM x g→b≤g∧g<w.heap.size:=fun g hg=>⟨ze_ h g hg,zh_ h g hg⟩
theorem PM.me {w:World} {b:Nat} {x:Mv} (h:PM w b x):ME w x:=zO_ h rfl
theorem Try.info116:(Try.prog.info? 116).map (fun i=>(i.zero,i.size,i.bytes))=some (some (.agg #[(0:Int),(0:Int)]),2,16):=by kernel_rfl
theorem Try.info26:(Try.prog.info? 26).map (fun i=>(i.zero,i.size,i.bytes))=some (some (.agg zN),9,120):=by kernel_rfl
structure CS (N:List Nv) (M:List Mv) (L:List Ld):Prop where
 n:N.length≤1048576
 m:M.length≤1048576
 l:L.length≤1048576
 ne:∀i (h:i<N.length),N[i].n.log.length≤1048576∧N[i].n.vs.length≤1048576∧N[i].n.mt.length≤1048576
 me:∀i (h:i<M.length),M[i].q.es.length≤1048576
 ns:∀i (h:i<N.length) j (h2:j<N[i].n.log.length),N[i].n.log[j].d.size≤1048576
 ms:∀i (h:i<M.length) j (h2:j<M[i].q.es.length),M[i].q.es[j].d.size≤1048576
structure OwnC (w:World) (lo hi:Nat) (vn vm vl:Value) (N:List Nv) (M:List Mv) (L:List Ld):Prop where
 n:w.ownsRow lo 26 9 vn N.length (zH_ N)
 m:w.ownsRow lo 38 9 vm M.length (zu_ M)
 l:w.ownsRow lo 116 2 vl L.length (flatL L)
 cn:zz_ PN BN w lo hi N
 cm:zz_ PM BM w lo hi M
 ap:∀i j (h1:i<N.length) (h2:j<M.length) b,BN N[i] b→¬BM M[j] b
 bn:∀b,vn.ownBlock=some b→b<hi
 bm:∀b,vm.ownBlock=some b→b<hi
 bl:∀b,vl.ownBlock=some b→b<hi
theorem OwnC.below {w w':World} {lo hi:Nat} {vn vm vl:Value} {N:List Nv} {M:List Mv} {L:List Ld} (h:OwnC w lo hi vn vm vl N M L) (hb:Below w.heap.size w w'):OwnC w' lo hi vn vm vl N M L:=
 ⟨zd_ h.n hb,zd_ h.m hb,zd_ h.l hb,h.cn.belowN hb,h.cm.belowM hb,h.ap,h.bn,h.bm,h.bl⟩
theorem OwnC.chg {w w':World} {S:Nat→Prop} {lo hi:Nat} {vn vm vl:Value} {N:List Nv} {M:List Mv} {L:List Ld} (h:OwnC w lo hi vn vm vl N M L) (hc:Chg S w w') (hs:∀b,S b→b<lo∨hi≤b):OwnC w' lo hi vn vm vl N M L:=by
 have e1:=h.cn.ends;have e2:=h.cm.ends;refine⟨hc.owns h.n fun b hb hh=> ?_,hc.owns h.m fun b hb hh=> ?_,hc.owns h.l fun b hb hh=> ?_,h.cn.chgN hc fun b hb=> ?_,h.cm.chgM hc fun b hb=> ?_,h.ap,h.bn,h.bm,h.bl⟩
 ·have:=ze_ h.n b hb;have:=h.bn b hb;have:=hs b hh;omega
 ·have:=ze_ h.m b hb;have:=h.bm b hb;have:=hs b hh;omega
 ·have:=ze_ h.l b hb;have:=h.bl b hb;have:=hs b hh;omega
 ·have:=hs b hb;omega
 ·have:=hs b hb;omega
theorem OwnC.cr {w:World} {lo hi:Nat} {vn vm vl:Value} {N:List Nv} {M:List Mv} {L:List Ld} (h:OwnC w lo hi vn vm vl N M L):CR w vn vm vl N M L:=
 ⟨NW_of_owns h.n rfl,MW_of_owns h.m rfl,LW_of_owns h.l rfl,fun i hi'=>by obtain⟨_,_,q,_⟩:=h.cn.at i hi';exact PN.ne q,fun i hi'=>by obtain⟨_,_,q,_⟩:=h.cm.at i hi';exact PM.me q⟩
theorem OwnC.lohi {w:World} {lo hi:Nat} {vn vm vl:Value} {N:List Nv} {M:List Mv} {L:List Ld} (h:OwnC w lo hi vn vm vl N M L):lo≤hi:=h.cn.ends
theorem OwnC.shapes {w:World} {lo hi:Nat} {vn vm vl:Value} {N:List Nv} {M:List Mv} {L:List Ld} (h:OwnC w lo hi vn vm vl N M L):(∃a c,vn= .slice a N.length c)∧(∃a c,vm= .slice a M.length c)∧∃a c,vl= .slice a L.length c:=h.cr.shapes
def put3 (w:World) (b:Nat) (v0 v1 v2:Value):World:=((w.setCell ⟨b,0,none⟩ v0).setCell ⟨b,1,none⟩ v1).setCell ⟨b,2,none⟩ v2
theorem put3_chg (w:World) (b:Nat) (v0 v1 v2:Value):Chg (· =b) w (put3 w b v0 v1 v2):=
 Chg.setCell (S:=(· =b)) (Chg.setCell (S:=(· =b)) (Chg.setCell (S:=(· =b)) (Chg.refl _ _) rfl _) rfl _) rfl _
theorem put3_box {w:World} {b:Nat} {u0 u1 u2:Value} (h:Box w b [u0,u1,u2]) (v0 v1 v2:Value):Box (put3 w b v0 v1 v2) b [v0,v1,v2]:=
 ((h.set 0 v0 (by simp)).set 1 v1 (by simp)).set 2 v2 (by simp)
theorem zq_ (w:World) {b:Nat} {u0 u1 u2:Value} (h:Box w b [u0,u1,u2]) (v0 v1 v2:Value):∃W,W=put3 w b v0 v1 v2∧Chg (fun k=>k=b) w W∧Box W b [v0,v1,v2]:=⟨_,rfl,put3_chg ..,put3_box h ..⟩
end Go.Proofs.Ytapfhhmimkkhnaa
