/-
  Messages marked and held; messageTo; AppendFor: the program's side.
  Agreement, plainly: nodes and messages that fit what was, and that they go on to fit when one node does something.
  Agreement, plainly: what one node does: a later term, a vote, an append, a crash.
  Agreement, plainly: who wins, who commits, who proposes, who asks.
-/
import Derived.Test.YtapfhhmimkkhnaaA4ToU1
import Derived.Test.YtapfhhmimkkhnaaN1ToA3
import Derived.Test.YtapfhhmimkkhnaaG1
import Derived.Test.YtapfhhmimkkhnaaRF5ToP1
import Derived.Test.YtapfhhmimkkhnaaK1ToKC3
namespace Go.Proofs.Ytapfhhmimkkhnaa
open Go.RowKit Go.Maps
set_option linter.unusedVariables false
set_option maxRecDepth 100000
structure Ms where
 ki:Int
 fr:Int
 dst:Int
 te:Int
 ix:Int
 be:Int
 co:Int
 ye:Bool
 es:List En
def Ms.zero:Ms:=⟨0,0,0,0,0,0,0,false,[]⟩
theorem messageTo_any (id pe te vo co ro peer kind:Int) (vl vv vm:Value) (w:World):
  Calls Try.prog 65 #[.agg #[id,pe,te,vo,vl,co,ro,vv,vm],peer,kind] w fun e w'=>e= .returned (.agg #[kind,id,peer,te,(0:Int),(0:Int),(),(0:Int),false])∧Below w.heap.size w w':=by
 go_enter Try.func65,Try.ntmps65;go_wp2;exact bodyPost_ret (v:= .agg #[kind,id,peer,te,(0:Int),(0:Int),(),(0:Int),false]) (by simp [results,Try.results65,go_sem]) rfl ⟨rfl,below2 _ _ _⟩
def afOk (g:Bool) (id pe ro peer many:Int):Bool:=g&&(decide (ro=2)&&(isP peer pe&&(!decide (peer=id)&&(decide (0≤many)&&decide (many≤60)))))
def afE (log:List En) (at_ many:Nat):List En:=(log.drop at_).take (min many (log.length-at_))
def afM (ok:Bool) (id te co peer many:Int) (log:List En) (mt:List Int):Ms:=
 if ok then⟨3,id,peer,te,mt.getD peer.toNat 0,tmAt log (mt.getD peer.toNat 0).toNat,co,false,afE log (mt.getD peer.toNat 0).toNat many.toNat⟩ else Ms.zero
theorem goodN_mt {id pe te vo co:Int} {log:List En} {vs mt:List Int} (h:zk_ id pe te vo co 2 log vs mt=true) (i:Nat) (hi:i<mt.length):0≤mt[i]∧mt[i]≤(log.length:Int):=by
 rw [zK_,goodRo_2] at h;simp only [goodMt,Bool.and_eq_true] at h;have hg:=h.2.2.2.2.2.2.2.2.2.1;unfold gM at hg;rw [List.all_eq_true] at hg;have:=hg mt[i] (List.getElem_mem hi);simpa using this
end Go.Proofs.Ytapfhhmimkkhnaa
namespace Go.Proofs.Ytapfhhmimkkhnaa
set_option linter.unusedVariables false
structure NInv (n:Nat) (s:Sys) (j:Nat) (x:Nd):Prop where
 te:x.te=s.tm j
 lg:x.log=s.lg j
 v0:x.vo= -1→s.V j (s.tm j)=none
 v1:∀k:Nat,x.vo=(k:Int)→s.V j (s.tm j)=some k
 aks:x.ro=1→s.C (s.tm j) j=some (s.lg j)∧∀i:Nat,(i:Int)∈x.vs→s.V i (s.tm j)=some j
 won:x.ro=1→¬(s.g.el (s.tm j)∧s.wh (s.tm j)=j)
 le:x.ro=2→s.g.el (s.tm j)∧s.wh (s.tm j)=j∧s.lg j=s.g.LL (s.tm j)∧∀i (h:i<x.mt.length),x.mt[i]≤(s.g.ack i (s.tm j):Int)
 co:zn_ n s.g (s.lg j) x.co.toNat (s.tm j)
structure MInv (n:Nat) (s:Sys) (m:Ms):Prop where
 ask:m.ki=1→∃P,s.C m.te m.fr.toNat=some P∧m.ix=P.length∧m.be=lastT P
 vot:m.ki=2→m.ye=true→s.V m.fr.toNat m.te=some m.dst.toNat
 app:m.ki=3→s.g.el m.te∧s.wh m.te=m.fr.toNat∧m.ix.toNat≤(s.g.LL m.te).length∧Piece (s.g.LL m.te) m.ix.toNat m.es∧m.be=tmAt (s.g.LL m.te) m.ix.toNat∧zn_ n s.g (s.g.LL m.te) m.co.toNat m.te
 tol:m.ki=4→m.ye=true→s.g.el m.te∧s.wh m.te=m.dst.toNat∧m.ix.toNat≤s.g.ack m.fr.toNat m.te
structure Ext (s s':Sys) (j:Nat):Prop where
 tm:∀i,i≠j→s'.tm i=s.tm i
 lg:∀i,i≠j→s'.lg i=s.lg i
 gr:Grows s.g s'.g
 wh:∀T,s.g.el T→s'.wh T=s.wh T
 V:∀i T k,s.V i T=some k→s'.V i T=some k
 Vn:∀i T,i≠j→s'.V i T=s.V i T
 C:∀T i P,s.C T i=some P→s'.C T i=some P
 ll:∀T,s.g.el T→s.wh T≠j→s'.g.LL T=s.g.LL T
 nw:∀T,s'.g.el T→s.g.el T∨s'.wh T=j
theorem Ext.refl (s:Sys) (j:Nat):Ext s s j:=⟨fun _ _=>rfl,fun _ _=>rfl,⟨fun _ h=>h,fun _ _=>Has.refl _ _ (Nat.le_refl _),fun _ _ _=>Nat.le_refl _⟩,fun _ _=>rfl,fun _ _ _ h=>h,fun _ _ _=>rfl,fun _ _ _ h=>h,fun _ _ _=>rfl,fun _ h=> .inl h⟩
theorem Ext.trans {a b c:Sys} {j:Nat} (h:Ext a b j) (k:Ext b c j):Ext a c j where
 tm:=fun i hi=>(k.tm i hi).trans (h.tm i hi)
 lg:=fun i hi=>(k.lg i hi).trans (h.lg i hi)
 gr:=h.gr.trans k.gr
 wh:=fun T hT=>(k.wh T (h.gr.el T hT)).trans (h.wh T hT)
 V:=fun i T x e=>k.V i T x (h.V i T x e)
 Vn:=fun i T hi=>(k.Vn i T hi).trans (h.Vn i T hi)
 C:=fun T i P e=>k.C T i P (h.C T i P e)
 ll:=fun T hT hw=>(k.ll T (h.gr.el T hT) (by rw [h.wh T hT];exact hw)).trans (h.ll T hT hw)
 nw:=fun T hT=>by
  rcases k.nw T hT with e | e
  ·rcases h.nw T e with e2 | e2
   ·exact .inl e2
   ·exact .inr ((k.wh T e).trans e2)
  ·exact .inr e
theorem Has.tmAt {P Q:List En} {x:Nat} (h:Has P Q x):tmAt P x=tmAt Q x:=by
 cases x with
 | zero=>rfl
 | succ x=>
  have h1:x<P.length:=h.1;have h2:x<Q.length:=h.2.1;rw [tmAt_succ P x h1,tmAt_succ Q x h2,h.at (by omega)]
theorem Piece.grow {P Q:List En} {ix:Nat} {es:List En} (h:Piece P ix es) (hg:Has P Q P.length):Piece Q ix es:=fun k hk=>by
 obtain⟨h2,e⟩:=h k hk;exact⟨Nat.lt_of_lt_of_le h2 hg.2.1,e.trans (hg.at h2)⟩
theorem zn_.len {n:Nat} {g:Gh} {P:List En} {c:Nat} {B:Int} (h:zn_ n g P c B):c≤P.length:=by
 rcases h with rfl | ⟨T,x,_,_,_,a⟩
 ·exact Nat.zero_le _
 ·exact a.1
theorem MInv.ext {n:Nat} {s s':Sys} {j:Nat} {m:Ms} (h:MInv n s m) (e:Ext s s' j):MInv n s' m:=by
 refine⟨fun hk=> ?_,fun hk hy=>e.V _ _ _ (h.vot hk hy),fun hk=> ?_,fun hk hy=> ?_⟩
 ·obtain⟨P,a,b⟩:=h.ask hk;exact⟨P,e.C _ _ _ a,b⟩
 ·obtain⟨a,b,c,d,f,q⟩:=h.app hk;have hl:=e.gr.ll _ a;refine⟨e.gr.el _ a,(e.wh _ a).trans b,Nat.le_trans c hl.2.1,d.grow hl,f.trans (hl.mono c).tmAt,?_⟩;exact (q.grows e.gr).of (Nat.le_refl _) (hl.mono q.len).symm
 ·obtain⟨a,b,c⟩:=h.tol hk hy;exact⟨e.gr.el _ a,(e.wh _ a).trans b,Nat.le_trans c (e.gr.ack _ _ a)⟩
theorem NInv.ext {n:Nat} {s s':Sys} {j i:Nat} {x:Nd} (h:NInv n s i x) (e:Ext s s' j) (hij:i≠j):NInv n s' i x:=by
 have ht:=e.tm i hij;have hl:=e.lg i hij;refine⟨h.te.trans ht.symm,h.lg.trans hl.symm,fun hv=> ?_,fun k hv=> ?_,fun hr=> ?_,fun hr=> ?_,fun hr=> ?_,?_⟩
 ·rw [ht,e.Vn i _ hij];exact h.v0 hv
 ·rw [ht,e.Vn i _ hij];exact h.v1 k hv
 ·obtain⟨a,b⟩:=h.aks hr;rw [ht,hl];exact⟨e.C _ _ _ a,fun q hq=>e.V _ _ _ (b q hq)⟩
 ·rw [ht];rintro⟨a,b⟩;rcases e.nw _ a with c | c
  ·exact h.won hr ⟨c,(e.wh _ c).symm.trans b⟩
  ·exact hij (b.symm.trans c)
 ·obtain⟨a,b,c,d⟩:=h.le hr;rw [ht,hl];refine⟨e.gr.el _ a,(e.wh _ a).trans b,?_,fun q hq=> ?_⟩
  ·rw [e.ll _ a (by rw [b];exact hij)];exact c
  ·have:=d q hq;have:=e.gr.ack q _ a;omega
 ·rw [ht,hl];exact h.co.grows e.gr
theorem Ext.term (s:Sys) (j:Nat) (T:Int):Ext s (s.term j T) j where
 tm:=fun i hi=>by simp [Sys.term,hi]
 lg:=fun _ _=>rfl
 gr:=⟨fun _ h=>h,fun _ _=>Has.refl _ _ (Nat.le_refl _),fun _ _ _=>Nat.le_refl _⟩
 wh:=fun _ _=>rfl
 V:=fun _ _ _ h=>h
 Vn:=fun _ _ _=>rfl
 C:=fun _ _ _ h=>h
 ll:=fun _ _ _=>rfl
 nw:=fun _ h=> .inl h
theorem Ext.ask {s:Sys} {k:Nat} (hn:s.C (s.tm k) k=none):Ext s (s.ask k) k where
 tm:=fun _ _=>rfl
 lg:=fun _ _=>rfl
 gr:=⟨fun _ h=>h,fun _ _=>Has.refl _ _ (Nat.le_refl _),fun _ _ _=>Nat.le_refl _⟩
 wh:=fun _ _=>rfl
 V:=fun _ _ _ h=>h
 Vn:=fun _ _ _=>rfl
 C:=fun T i P e=>by
  unfold Sys.ask;dsimp only;rw [if_neg];exact e;rintro⟨rfl,rfl⟩;rw [hn] at e;cases e
 ll:=fun _ _ _=>rfl
 nw:=fun _ h=> .inl h
theorem Ext.vote {s:Sys} {j k:Nat} (hn:s.V j (s.tm j)=none):Ext s (s.vote j k) j where
 tm:=fun _ _=>rfl
 lg:=fun _ _=>rfl
 gr:=⟨fun _ h=>h,fun _ _=>Has.refl _ _ (Nat.le_refl _),fun _ _ _=>Nat.le_refl _⟩
 wh:=fun _ _=>rfl
 V:=fun i T x e=>by
  unfold Sys.vote;dsimp only;rw [if_neg];exact e;rintro⟨rfl,rfl⟩;rw [hn] at e;cases e
 Vn:=fun i T hi=>by simp [Sys.vote,hi]
 C:=fun _ _ _ h=>h
 ll:=fun _ _ _=>rfl
 nw:=fun _ h=> .inl h
theorem Ext.lead {s:Sys} {k:Nat} (hne:¬s.g.el (s.tm k)):Ext s (s.lead k) k where
 tm:=fun _ _=>rfl
 lg:=fun _ _=>rfl
 gr:=Grows.elect _ _ hne
 wh:=fun T hT=>by
  unfold Sys.lead;dsimp only;rw [if_neg];intro e;exact hne (by rw [←e];exact hT)
 V:=fun _ _ _ h=>h
 Vn:=fun _ _ _=>rfl
 C:=fun _ _ _ h=>h
 ll:=fun T hT _=>s.g.elect_LL_ne k _ (fun e=>hne (by rw [←e];exact hT))
 nw:=fun T hT=>by
  rcases hT with e | e
  ·exact .inr (by subst e;simp [Sys.lead])
  ·exact .inl e
theorem Ext.accept (s:Sys) (j:Nat) (P':List En) (y:Nat):Ext s (s.accept j P' y) j where
 tm:=fun _ _=>rfl
 lg:=fun i hi=>by simp [Sys.accept,hi]
 gr:=Grows.tell _ _ _ _
 wh:=fun _ _=>rfl
 V:=fun _ _ _ h=>h
 Vn:=fun _ _ _=>rfl
 C:=fun _ _ _ h=>h
 ll:=fun _ _ _=>rfl
 nw:=fun _ h=> .inl h
theorem Ext.propose {s:Sys} {k:Nat} (e:En) (hw:s.wh (s.tm k)=k):Ext s (s.propose k e) k where
 tm:=fun _ _=>rfl
 lg:=fun i hi=>by simp [Sys.propose,hi]
 gr:=(Grows.prop _ _ _).trans (Grows.tell _ _ _ _)
 wh:=fun _ _=>rfl
 V:=fun _ _ _ h=>h
 Vn:=fun _ _ _=>rfl
 C:=fun _ _ _ h=>h
 ll:=fun T hT hne=>prop_LL_ne _ _ (fun h=>hne (by rw [h];exact hw))
 nw:=fun _ h=> .inl h
theorem AInv.fresh {n:Nat} {s:Sys} (h:AInv n s) {j:Nat} {T:Int} (hT:s.tm j<T):s.V j T=none:=by
 cases e:s.V j T with
 | none=>rfl
 | some k=>have:=(h.vt j T k e).1;omega
theorem AInv.freshC {n:Nat} {s:Sys} (h:AInv n s) {j:Nat} {T:Int} (hT:s.tm j<T):s.C T j=none:=by
 cases e:s.C T j with
 | none=>rfl
 | some P=>have:=(h.cd T j P e).2;omega
theorem AInv.hEL {n:Nat} {s:Sys} (h:AInv n s):∀U,s.g.el U→Has (s.g.E U) (s.g.LL U) (s.g.E U).length:=fun U hU=>(h.ld U hU).2.2.2.2.1
def upN (x:Nd) (T:Int):Nd:=⟨x.id,x.pe,T,-1,x.co,0,x.log,[],[]⟩
theorem NInv.up {n:Nat} {s:Sys} {j:Nat} {x:Nd} (hA:AInv n s) (h:NInv n s j x) (T:Int) (hT:x.te<T):AInv n (s.term j T)∧NInv n (s.term j T) j (upN x T)∧Ext s (s.term j T) j:=by
 have ht:s.tm j<T:=by have:=h.te;omega
 have e:(s.term j T).tm j=T:=by simp [Sys.term]
 refine⟨hA.term j T (by omega),⟨?_,h.lg,fun _=> ?_,fun k hk=> ?_,fun hr=> ?_,fun hr=> ?_,fun hr=> ?_,?_⟩,Ext.term s j T⟩
 ·exact e.symm
 ·rw [e];exact hA.fresh ht
 ·simp [upN] at hk
 ·simp [upN] at hr
 ·simp [upN] at hr
 ·simp [upN] at hr
 ·rw [e];exact h.co.later (by omega)
def foN (x:Nd):Nd:=⟨x.id,x.pe,x.te,x.vo,x.co,0,x.log,[],[]⟩
theorem NInv.follow {n:Nat} {s:Sys} {j:Nat} {x:Nd} (h:NInv n s j x):NInv n s j (foN x):=
 ⟨h.te,h.lg,h.v0,h.v1,fun hr=>by simp [foN] at hr,fun hr=>by simp [foN] at hr,fun hr=>by simp [foN] at hr,h.co⟩
theorem NInv.crash {n:Nat} {s:Sys} {j:Nat} {x:Nd} (h:NInv n s j x):NInv n s j { foN x with co:=0 } :=
 ⟨h.te,h.lg,h.v0,h.v1,fun hr=>by simp [foN] at hr,fun hr=>by simp [foN] at hr,fun hr=>by simp [foN] at hr,.inl rfl⟩
theorem lastT_tmAt (P:List En):lastT P=tmAt P P.length:=by
 cases h:P.length with
 | zero=>unfold lastT;rw [dif_neg (by omega)];rfl
 | succ k=>
  rw [tmAt_succ P k (by omega),lastT_pos (by omega)]
  congr 2
  omega
theorem upTo_of {P Q:List En} {ix be:Int} (h:zM_ Q ix be=true) (h1:ix=P.length) (h2:be=lastT P):UpTo P Q:=by
 unfold zM_ at h;rw [←lastT_tmAt Q] at h;simp only [Bool.or_eq_true,Bool.and_eq_true,decide_eq_true_eq] at h;unfold UpTo;rcases h with h | ⟨h,h'⟩
 ·left;omega
 ·right;exact⟨by omega,by omega⟩
theorem NInv.voted {n:Nat} {s:Sys} {j:Nat} {x:Nd} {m:Ms} (hA:AInv n s) (h:NInv n s j x) (hm:MInv n s m) (hk:m.ki=1) (hte:m.te=x.te) (hf:0≤m.fr) (hv:x.vo= -1∨x.vo=m.fr) (hu:zM_ x.log m.ix m.be=true):
  ∃s',AInv n s'∧NInv n s' j { x with vo:=m.fr } ∧Ext s s' j∧s'.V j m.te=some m.fr.toNat:=by
 obtain⟨P,c1,c2,c3⟩:=hm.ask hk;have htm:m.te=s.tm j:=hte.trans h.te;by_cases hvo:x.vo= -1
 ·have hn:=h.v0 hvo;rw [h.lg] at hu;rw [htm] at c1;have hup:=upTo_of hu c2 c3;refine⟨s.vote j m.fr.toNat,hA.vote j m.fr.toNat P hn c1 hup,?_,Ext.vote hn,?_⟩
  ·have e:=Ext.vote (k:=m.fr.toNat) hn;refine⟨h.te,h.lg,fun hh=> ?_,fun k hh=> ?_,fun hr=> ?_,h.won,h.le,h.co⟩
   ·dsimp only at hh;omega
   ·dsimp only at hh;show (s.vote j m.fr.toNat).V j (s.tm j)=some k;simp [Sys.vote];omega
   ·obtain⟨a,b⟩:=h.aks hr;exact⟨a,fun q hq=>e.V _ _ _ (b q hq)⟩
  ·rw [htm];simp [Sys.vote]
 ·have hvf:x.vo=m.fr:=by rcases hv with h1 | h1;exact absurd h1 hvo;exact h1
  have hV:=h.v1 m.fr.toNat (by omega);refine⟨s,hA,?_,Ext.refl s j,by rw [htm];exact hV⟩;have:({ x with vo:=m.fr } :Nd)=x:=by rw [←hvf]
  rw [this];exact h
theorem NInv.append {n:Nat} {s:Sys} {j:Nat} {x:Nd} {m:Ms} (hA:AInv n s) (h:NInv n s j x) (hm:MInv n s m) (hk:m.ki=3) (hte:m.te=x.te) (hix:m.ix.toNat≤x.log.length) (hbe:tmAt x.log m.ix.toNat=m.be) (c:Int) (hc:c=x.co∨(c.toNat≤m.co.toNat∧c.toNat≤m.ix.toNat+m.es.length)):
  ∃s',AInv n s'∧NInv n s' j { foN x with log:=lgW x.log m.ix.toNat m.es,co:=c } ∧Ext s s' j∧(s'.g.el m.te∧s'.wh m.te=m.fr.toNat∧m.ix.toNat+m.es.length≤s'.g.ack j m.te)∧Has (lgW x.log m.ix.toNat m.es) x.log x.co.toNat:=by
 obtain⟨hel,hwh,hil,hpc,hbl,hcm⟩:=hm.app hk;have htm:m.te=s.tm j:=hte.trans h.te;obtain⟨hlo,hkp⟩:=hA.lo j;obtain⟨_,_,_,_,hE,hLL⟩:=hA.ld _ hel;rw [htm] at hel hwh hil hpc hbl hcm hE hLL;have hhas:Has x.log (s.g.LL (s.tm j)) m.ix.toNat:=by
  rcases Nat.eq_zero_or_pos m.ix.toNat with h0 | h0
  ·rw [h0];exact Has.zero _ _
  ·have e:=hbe.trans hbl;obtain⟨q,hq⟩:∃q,m.ix.toNat=q+1:=⟨m.ix.toNat-1,by omega⟩;rw [hq] at e hix hil ⊢;rw [tmAt_succ _ q (by omega),tmAt_succ _ q (by omega)] at e;have hOk:Ok s.g.LL x.log:=by rw [h.lg];exact hlo.1
   exact matching hOk hLL.1 q (by omega) (by omega) e
 have hOk:Ok s.g.LL x.log:=by rw [h.lg];exact hlo.1
 obtain⟨a1,a2,a3⟩:=Go.Proofs.Ytapfhhmimkkhnaa.accept hOk hLL.1 m.es m.ix.toNat hhas hpc;have hold:Has x.log (s.g.LL (s.tm j)) x.co.toNat:=by rw [h.lg];exact h.co.lead hA.cm hA.hEL (Int.le_refl _) hel
 have hA':AInv n (s.accept j (lgW x.log m.ix.toNat m.es) (m.ix.toNat+m.es.length)):=hA.accept j _ _ hel (by rw [←h.lg];exact a3) a1 (by rw [←h.lg];exact a2);have hgr:Grows s.g (s.g.tell j (s.tm j) (m.ix.toNat+m.es.length)):=Grows.tell _ _ _ _;refine⟨s.accept j (lgW x.log m.ix.toNat m.es) (m.ix.toNat+m.es.length),hA',⟨h.te,?_,h.v0,h.v1,fun hr=>by simp [foN] at hr,fun hr=>by simp [foN] at hr,fun hr=>by simp [foN] at hr,?_⟩,Ext.accept s j _ _,⟨?_,?_,?_⟩,(a3 _ hold).trans hold.symm⟩
 ·simp [Sys.accept]
 ·show zn_ n (s.g.tell j (s.tm j) (m.ix.toNat+m.es.length)) ((s.accept j (lgW x.log m.ix.toNat m.es) (m.ix.toNat+m.es.length)).lg j) c.toNat (s.tm j);have e1:(s.accept j (lgW x.log m.ix.toNat m.es) (m.ix.toNat+m.es.length)).lg j=lgW x.log m.ix.toNat m.es:=by simp [Sys.accept]
  rw [e1];refine zn_.grows ?_ hgr;rcases hc with rfl | ⟨c1,c2⟩
  ·refine zn_.append hA.cm hA.hEL (W:=s.tm j) (P:=s.lg j) h.co (Int.le_refl _) hel (by rw [←h.lg];exact a3)
  ·exact hcm.of c1 (a1.mono c2)
 ·rw [htm];exact hel
 ·rw [htm];exact hwh
 ·rw [htm];simp [Sys.accept,Gh.tell];omega
theorem cnt_list {p:Nat→Prop} :∀(n:Nat) (l:List Nat),l.Nodup→(∀i∈l,i<n∧p i)→l.length≤cnt p n:=by
 intro n
 induction n with
 | zero=>
  intro l hd hl
  cases l with
  | nil=>simp
  | cons x r=>have:=(hl x (by simp)).1;omega
 | succ n ih=>
  intro l hd hl;by_cases hn:n∈l
  ·have hp:=(hl n hn).2;have h1:=ih (l.erase n) (hd.erase n) fun i hi=>by
    have hm:=List.mem_of_mem_erase hi;have hne:i≠n:=fun e=>by subst e;exact (List.Nodup.not_mem_erase hd) hi
    have:=hl i hm;exact⟨by omega,this.2⟩
   have h2:=List.length_erase_of_mem hn;simp only [cnt];rw [if_pos hp];omega
  ·have h1:=ih l hd fun i hi=>by
    have:=hl i hi;have hne:i≠n:=fun e=>hn (e ▸ hi);exact⟨by omega,this.2⟩
   simp only [cnt];omega
theorem cI_cnt {p:Nat→Prop} (x:Int) (mt:List Int) (h:∀i (hi:i<mt.length),x≤mt[i]→p i):cI x mt≤cnt p mt.length:=by
 have key:∀k,k≤mt.length→cI x (mt.take k)≤cnt p k:=by
  intro k
  induction k with
  | zero=>intro _;simp [cI]
  | succ k ih=>
   intro hk;have h1:=ih (by omega);have e:cI x (mt.take (k+1))=cI x (mt.take k)+(if x≤mt[k]'(by omega) then 1 else 0):=by
    rw [←List.take_append_getElem (show k<mt.length from by omega)];have app:∀a b:List Int,cI x (a++b)=cI x a+cI x b:=by
     intro a b
     induction a with
     | nil=>simp [cI]
     | cons y r ih=>simp only [List.cons_append,cI,ih];omega
    rw [app];simp [cI]
   rw [e];simp only [cnt];by_cases hx:x≤mt[k]'(by omega)
   ·rw [if_pos hx,if_pos (h k (by omega) hx)];omega
   ·rw [if_neg hx];omega
 have:=key mt.length (Nat.le_refl _)
 rwa [List.take_length] at this
theorem comTo_what (te pe co:Int) (log:List En) (mt:List Int):∀k,k≤log.length→zr_ te pe co log mt k=co∨∃x,∃h:x<log.length,zr_ te pe co log mt k=((x+1:Nat):Int)∧log[x].t=te∧pe<2*(cI ((x+1:Nat):Int) mt:Int):=by
 intro k
 induction k with
 | zero=>intro _;exact .inl rfl
 | succ k ih=>
  intro hk;simp only [zr_];by_cases h1:co<((k+1:Nat):Int)
  ·rw [if_pos h1];by_cases h2:(log.getD k En.zero).t=te∧pe<2*(cI ((k+1:Nat):Int) mt:Int)
   ·rw [if_pos h2];have hg:log.getD k En.zero=log[k]'(by omega):=by simp [List.getD,show k<log.length from by omega]
    rw [hg] at h2;exact .inr ⟨k,by omega,rfl,h2.1,h2.2⟩
   ·rw [if_neg h2];exact ih (by omega)
  ·rw [if_neg h1];exact .inl rfl
theorem NInv.commit {n:Nat} {s:Sys} {j:Nat} {x:Nd} (h:NInv n s j x) (hr:x.ro=2) (hl:x.mt.length=n) (hpe:x.pe=n):NInv n s j { x with co:=zr_ x.te x.pe x.co x.log x.mt x.log.length } :=by
 refine⟨h.te,h.lg,h.v0,h.v1,h.aks,h.won,h.le,?_⟩;obtain⟨a,b,c,d⟩:=h.le hr;show zn_ n s.g (s.lg j) (zr_ x.te x.pe x.co x.log x.mt x.log.length).toNat (s.tm j);rcases comTo_what x.te x.pe x.co x.log x.mt x.log.length (Nat.le_refl _) with e | ⟨q,hq,e,e1,e2⟩
 ·rw [e];exact h.co
 ·rw [e,Int.toNat_natCast];have hlog:x.log=s.g.LL (s.tm j):=h.lg.trans c;have hq':q<(s.g.LL (s.tm j)).length:=by rw [←hlog];exact hq
  have e1':(s.g.LL (s.tm j))[q].t=s.tm j:=by
   have:(s.g.LL (s.tm j))[q]=x.log[q]:=by congr 1;exact hlog.symm
   rw [this,e1,h.te]
  rw [c];refine zn_.decide a hq' e1' ?_;have hc:=cI_cnt (p:=fun i=>q<s.g.ack i (s.tm j)) ((q+1:Nat):Int) x.mt fun i hi hx=>by have:=d i hi;omega
  rw [hl] at hc;unfold Maj;omega
theorem NInv.wins {n:Nat} {s:Sys} {j:Nat} {x:Nd} (hA:AInv n s) (h:NInv n s j x) (hr:x.ro=1) (hte:0<x.te) (hnd:x.vs.Nodup) (hin:∀v∈x.vs,0≤v∧v<(n:Int)) (hmaj:(n:Int)<2*(x.vs.length:Int)) (mt:List Int) (hmt:∀i (h:i<mt.length),mt[i]≤0∨(i=j∧mt[i]≤(x.log.length:Int))):
  AInv n (s.lead j)∧NInv n (s.lead j) j { x with ro:=2,vs:= [],mt:=mt } ∧Ext s (s.lead j) j:=by
 obtain⟨hC,hV⟩:=h.aks hr;have hm:Maj n fun i=>s.V i (s.tm j)=some j:=by
  have hc:=cnt_list (p:=fun i=>s.V i (s.tm j)=some j) n (x.vs.map Int.toNat) (by
   rw [List.Nodup,List.pairwise_map];refine List.Pairwise.imp_of_mem (fun {a b} ha hb hab e=>hab ?_) hnd;have:=hin a ha;have:=hin b hb;omega) (fun i hi=>by
   obtain⟨v,hv,rfl⟩:=List.mem_map.1 hi;have:=hin v hv;refine⟨by omega,hV v.toNat ?_⟩;rw [show ((v.toNat:Nat):Int)=v from by omega];exact hv)
  rw [List.length_map] at hc;unfold Maj;omega
 have hne:¬s.g.el (s.tm j):=fun hel=>h.won hr ⟨hel,(hA.one hel hm).symm⟩;have hp:0<s.tm j:=by have:=h.te;omega
 refine⟨hA.lead j hne hC hm hp,⟨h.te,h.lg,h.v0,h.v1,fun hh=>by simp at hh,fun hh=>by simp at hh,fun _=>⟨.inl rfl,by simp [Sys.lead],?_,fun i hi=> ?_⟩,?_⟩,Ext.lead hne⟩
 ·show s.lg j=(s.g.elect (s.tm j) j (s.lg j)).LL (s.tm j);rw [s.g.elect_LL]
 ·show mt[i]≤((s.g.elect (s.tm j) j (s.lg j)).ack i (s.tm j):Int);rcases hmt i hi with h1 | ⟨rfl,h1⟩
  ·omega
  ·have:(s.g.elect (s.tm i) i (s.lg i)).ack i (s.tm i)=(s.lg i).length:=by simp [Gh.elect]
   rw [this,←h.lg];exact h1
 ·exact h.co.grows (Grows.elect _ _ hne)
theorem NInv.proposes {n:Nat} {s:Sys} {j:Nat} {x:Nd} (hA:AInv n s) (h:NInv n s j x) (hr:x.ro=2) (d:ByteArray) (mt:List Int) (hmt:∀i (h:i<mt.length),(∃h2:i<x.mt.length,mt[i]=x.mt[i])∨(i=j∧mt[i]=(x.log.length:Int)+1)):
  ∃s',AInv n s'∧NInv n s' j { x with log:=x.log++ [⟨x.te,d⟩],mt:=mt } ∧Ext s s' j:=by
 obtain⟨a,b,c,q⟩:=h.le hr;have he:(⟨x.te,d⟩:En).t=s.tm j:=h.te;have hE:=Ext.propose (s:=s) (k:=j) ⟨x.te,d⟩ b;refine⟨s.propose j ⟨x.te,d⟩,hA.propose j _ a c he,⟨h.te,?_,h.v0,h.v1,fun hh=>(by rw [hr] at hh;omega),fun hh=>(by rw [hr] at hh;omega),fun _=>⟨a,b,?_,fun i hi=> ?_⟩,?_⟩,hE⟩
 ·simp [Sys.propose];rw [h.lg,c]
 ·show (s.propose j ⟨x.te,d⟩).lg j=((s.g.prop (s.tm j) ⟨x.te,d⟩).tell j (s.tm j) _).LL (s.tm j);simp [Sys.propose,Gh.tell,Gh.prop]
 ·show mt[i]≤((s.propose j ⟨x.te,d⟩).g.ack i (s.tm j):Int);rcases hmt i hi with⟨h2,e⟩ | ⟨rfl,e⟩
  ·rw [e];have:=q i h2;have:=hE.gr.ack i _ a;omega
  ·rw [e,h.lg,c];simp [Sys.propose,Gh.tell];omega
 ·show zn_ n (s.propose j ⟨x.te,d⟩).g ((s.propose j ⟨x.te,d⟩).lg j) x.co.toNat (s.tm j);have e1:(s.propose j ⟨x.te,d⟩).lg j=s.lg j++ [⟨x.te,d⟩]:=by simp [Sys.propose];rw [c]
  rw [e1];exact (h.co.grows hE.gr).of (Nat.le_refl _) (has_grown (Has.refl _ _ h.co.len) _).symm
theorem NInv.asks {n:Nat} {s:Sys} {j:Nat} {x:Nd} (hA:AInv n s) (h:NInv n s j x):
  ∃s',AInv n s'∧NInv n s' j ⟨x.id,x.pe,x.te+1,j,x.co,1,x.log,[(j:Int)],[]⟩∧Ext s s' j∧s'.C (x.te+1) j=some x.log:=by
 have ht:s.tm j<x.te+1:=by have:=h.te;omega
 have e1:(s.term j (x.te+1)).tm j=x.te+1:=by simp [Sys.term]
 have A1:=hA.term j (x.te+1) (by omega);have hn1:(s.term j (x.te+1)).C ((s.term j (x.te+1)).tm j) j=none:=by rw [e1];exact hA.freshC ht
 have hl:yj_ s.g (s.lg j) (x.te+1-1):=(hA.lo j).1.mono (by have:=h.te;omega);have A2:=A1.ask j hn1 (by rw [e1];exact hl);have hv2:((s.term j (x.te+1)).ask j).V j (((s.term j (x.te+1)).ask j).tm j)=none:=by
  show s.V j ((s.term j (x.te+1)).tm j)=none;rw [e1];exact hA.fresh ht
 have hc2:((s.term j (x.te+1)).ask j).C (((s.term j (x.te+1)).ask j).tm j) j=some (s.lg j):=by
  show (if (s.term j (x.te+1)).tm j=(s.term j (x.te+1)).tm j∧j=j then some (s.lg j) else _)=_;rw [if_pos ⟨rfl,rfl⟩]
 have A3:=A2.vote j j (s.lg j) hv2 hc2 (.inr ⟨rfl,Nat.le_refl _⟩);have hX:=((Ext.term s j (x.te+1)).trans (Ext.ask hn1)).trans (Ext.vote (k:=j) hv2);refine⟨_,A3,⟨e1.symm,h.lg,fun hh=> ?_,fun k hh=> ?_,fun _=>⟨hc2,fun i hi=> ?_⟩,fun _ hh=> ?_,fun hh=> ?_,?_⟩,hX,?_⟩
 ·dsimp only at hh;omega
 ·dsimp only at hh;have:k=j:=by omega
  subst this;show (if k=k∧(s.term k (x.te+1)).tm k=(s.term k (x.te+1)).tm k then some k else _)=_;rw [if_pos ⟨rfl,rfl⟩]
 ·simp only [List.mem_singleton] at hi;have:i=j:=by omega
  subst this;show (if i=i∧(s.term i (x.te+1)).tm i=(s.term i (x.te+1)).tm i then some i else _)=_;rw [if_pos ⟨rfl,rfl⟩]
 ·have hel:s.g.el ((s.term j (x.te+1)).tm j):=hh.1;have hw:s.wh ((s.term j (x.te+1)).tm j)=j:=hh.2;rw [e1] at hel hw;have:=(hA.ld _ hel).2.1;rw [hw] at this;omega
 ·simp at hh
 ·show zn_ n s.g (s.lg j) x.co.toNat ((s.term j (x.te+1)).tm j);rw [e1];exact h.co.later (by omega)
 ·have:=hc2;have e3:((s.term j (x.te+1)).ask j).tm j=x.te+1:=e1;rw [e3] at this;rw [h.lg];exact this
end Go.Proofs.Ytapfhhmimkkhnaa
