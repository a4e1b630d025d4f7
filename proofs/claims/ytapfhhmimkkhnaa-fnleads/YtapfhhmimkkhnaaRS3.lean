/-
  A message handled, plainly: it is always handled where all fits; the node behind it is good and fits, what it had committed stays.
-/
import Derived.Test.YtapfhhmimkkhnaaRS1ToRS2
import Derived.Test.YtapfhhmimkkhnaaVIToSP
namespace Go.Proofs.Ytapfhhmimkkhnaa
set_option linter.unusedVariables false
theorem gV_at {pe:Int} {l:List Int} (h:gV pe l=true):∀k,k<l.length→vAt pe l k=true:=by
 intro k hk
 cases hv:vAt pe l k with
 | true=>rfl
 | false=>rw [show gV pe l=false from vTo_false pe l k l.length hk hv] at h;cases h
theorem gV_of {pe:Int} {l:List Int} (h:∀k,k<l.length→vAt pe l k=true):gV pe l=true:=by
 have key:∀n,n≤l.length→vTo pe l n=true:=by
  intro n
  induction n with
  | zero=>intro _;rfl
  | succ n ih=>intro hn;simp only [vTo];rw [ih (by omega),h n (by omega)];rfl
 exact key _ (Nat.le_refl _)
theorem gV_iff {pe:Int} {l:List Int} :gV pe l=true↔(∀v∈l,0≤v∧v<pe)∧l.Pairwise (· < ·):=by
 constructor
 ·intro h;have h1:=gV_at h;have hb:∀k (hk:k<l.length),0≤l[k]∧l[k]<pe:=fun k hk=>by
   have:=h1 k hk;simp only [vAt,isP,Bool.and_eq_true,decide_eq_true_eq] at this;rw [ya_ l k hk] at this;exact this.1
  have hs:∀k (hk:k+1<l.length),l[k]<l[k+1]:=fun k hk=>by
   have:=h1 (k+1) hk;simp only [vAt,isP,Bool.and_eq_true,decide_eq_true_eq,Nat.add_sub_cancel,Bool.or_eq_true,beq_iff_eq] at this;rw [ya_ l (k+1) hk,ya_ l k (by omega)] at this;rcases this.2 with h2 | h2
   ·omega
   ·exact h2
  refine⟨fun v hv=> ?_,?_⟩
  ·obtain⟨k,hk,rfl⟩:=List.getElem_of_mem hv;exact hb k hk
  ·rw [List.pairwise_iff_getElem];intro i j hi hj hij;obtain⟨d,rfl⟩:∃d,j=i+1+d:=⟨j-i-1,by omega⟩
   induction d with
   | zero=>exact hs i (by omega)
   | succ d ih=>
    have a:=ih (by omega) (by omega);have b:=hs (i+1+d) (by omega);have e:l[i+1+(d+1)]=l[i+1+d+1]:=rfl;rw [e];omega
 ·rintro⟨h1,h2⟩;rw [List.pairwise_iff_getElem] at h2;refine gV_of fun k hk=> ?_;simp only [vAt,isP,Bool.and_eq_true,decide_eq_true_eq,Bool.or_eq_true,beq_iff_eq];rw [ya_ l k hk];refine⟨h1 _ (List.getElem_mem hk),?_⟩;by_cases h0:k=0
  ·exact .inl h0
  ·rw [ya_ l (k-1) (by omega)];exact .inr (h2 (k-1) k (by omega) hk (by omega))
theorem hsI_iff {l:List Int} {x:Int} :hsI l x=true↔x∈l:=by
 simp [hsI,List.any_eq_true]
theorem putV_mem {vs:List Int} {x v:Int} :v∈putV vs x↔v∈vs∨v=x:=by
 unfold putV;generalize vs.countP (fun v=>decide (v<x))=c;rw [List.mem_append,List.mem_cons];have e:v∈vs↔v∈vs.take c∨v∈vs.drop c:=by
  conv=>lhs;rw [←List.take_append_drop c vs]
  exact List.mem_append
 rw [e];constructor
 ·rintro (h | h | h)
  ·exact .inl (.inl h)
  ·exact .inr h
  ·exact .inl (.inr h)
 ·rintro ((h | h) | h)
  ·exact .inl h
  ·exact .inr (.inr h)
  ·exact .inr (.inl h)
theorem putV_rising {vs:List Int} {x:Int} (h:vs.Pairwise (· < ·)) (hx:x ∉ vs):(putV vs x).Pairwise (· < ·):=by
 have hle:vs.Pairwise (· ≤ ·):=h.imp fun {a b} hab=>by omega
 have hc:=cp_lt x vs hle;unfold putV;generalize vs.countP (fun v=>decide (v<x))=c at*;have ht:∀v∈vs.take c,v<x:=fun v hv=>by
  obtain⟨i,hi,rfl⟩:=List.getElem_of_mem hv;simp only [List.length_take] at hi;simp only [List.getElem_take];exact (hc i (by omega)).2 (by omega)
 have hd:∀v∈vs.drop c,x<v:=fun v hv=>by
  obtain⟨i,hi,rfl⟩:=List.getElem_of_mem hv;simp only [List.length_drop] at hi;simp only [List.getElem_drop];have h1:¬vs[c+i]<x:=fun q=>by have:=(hc (c+i) (by omega)).1 q;omega
  have h2:vs[c+i]≠x:=fun q=>hx (by rw [←q];exact List.getElem_mem _);omega
 rw [List.pairwise_append];refine⟨h.sublist (List.take_sublist c vs),List.pairwise_cons.2 ⟨hd,h.sublist (List.drop_sublist c vs)⟩,fun a ha b hb=> ?_⟩;have:=ht a ha;rcases List.mem_cons.1 hb with rfl | hb
 ·exact this
 ·have:=hd b hb;omega
theorem comTo_ge (te pe co:Int) (log:List En) (mt:List Int):∀k,co≤zr_ te pe co log mt k:=by
 intro k
 induction k with
 | zero=>exact Int.le_refl _
 | succ k ih=>
  simp only [zr_]
  split
  ·split
   ·omega
   ·exact ih
  ·exact Int.le_refl _
theorem Gd.cm {x:Nd} (h:Gd x):Gd (cmN x)∧x.co≤(cmN x).co:=by
 unfold cmN
 split
 ·have h1:=h.c0;have h2:=h.cl;have hc:=comTo_what x.te x.pe x.co x.log x.mt x.log.length (Nat.le_refl _);refine⟨⟨h.p1,h.p7,h.i0,h.ip,h.t0,h.t1,h.v0,h.vp,h.lg,h.ll,?_,?_,h.ro⟩,comTo_ge _ _ _ _ _ _⟩
  ·show 0≤zr_ _ _ _ _ _ _;rcases hc with e1 | ⟨q,hq,e1,_⟩ <;>rw [e1] <;>omega
  ·show zr_ _ _ _ _ _ _≤(x.log.length:Int);rcases hc with e1 | ⟨q,hq,e1,_⟩ <;>rw [e1] <;>omega
 ·exact⟨h,Int.le_refl _⟩
structure Went (n:Nat) (s:Sys) (j:Nat) (x:Nd) (s':Sys) (z:Nd):Prop where
 A:AInv n s'
 E:Ext s s' j
 N:NInv n s' j z
 G:Gd z
 c:x.co≤z.co
 h:Has z.log x.log x.co.toNat
theorem Went.cm {n:Nat} {s s':Sys} {j:Nat} {x z:Nd} (h:Went n s j x s' z) (hp:z.pe=n):Went n s j x s' (cmN z):=by
 have hg:=h.G.cm;refine⟨h.A,h.E,?_,hg.1,Int.le_trans h.c hg.2,?_⟩
 ·unfold cmN
  split
  ·rename_i hr
   have:=(h.G.r2 hr).2.2.2.1;exact h.N.commit hr (by omega) hp
  ·exact h.N
 ·unfold cmN;split <;>exact h.h
theorem Went.trans {n:Nat} {s s' s'':Sys} {j:Nat} {x y z:Nd} (h:Went n s j x s' y) (k:Went n s' j y s'' z) (h0:0≤x.co):Went n s j x s'' z:=
 ⟨k.A,h.E.trans k.E,k.N,k.G,Int.le_trans h.c k.c,(k.h.mono (by have:=h.c;omega)).trans h.h⟩
theorem Gd.has {x:Nd} (h:Gd x):Has x.log x.log x.co.toNat:=Has.refl _ _ (by have:=h.cl;omega)
theorem Went.up {n:Nat} {s:Sys} {j:Nat} {x:Nd} (hA:AInv n s) (hx:NInv n s j x) (g:Gd x) {T:Int} (hT:T≤1000):∃s',Went n s j x s' (hmU x T):=by
 unfold hmU
 split
 ·rename_i h
  obtain⟨a,b,c⟩:=hx.up hA T h;exact⟨_,a,c,b,g.up (by omega) hT,Int.le_refl _,g.has⟩
 ·exact⟨s,hA,Ext.refl s j,hx,g,Int.le_refl _,g.has⟩
theorem MInv.other {n:Nat} {s:Sys} {m:Ms} (h2:m.ki=2→m.ye=true→s.V m.fr.toNat m.te=some m.dst.toNat) (h1:m.ki≠1) (h3:m.ki≠3) (h4:m.ki=4→m.ye=true→s.g.el m.te∧s.wh m.te=m.dst.toNat∧m.ix.toNat≤s.g.ack m.fr.toNat m.te):MInv n s m:=
 ⟨fun h=>absurd h h1,h2,fun h=>absurd h h3,h4⟩
theorem Went.ask {n:Nat} {s:Sys} {j:Nat} {x:Nd} {m:Ms} (hA:AInv n s) (hx:NInv n s j x) (g:Gd x) (hi:x.id=(j:Int)) (hm:MInv n s m) (hk:m.ki=1) (hf0:0≤m.fr) (hfp:m.fr<x.pe) (hne:m.fr≠x.id):
  ∃s',Went n s j x s' (askN x m)∧MInv n s' (msN 2 x.id m.fr x.te 0 (askY x m)):=by
 unfold askN
 cases hy:askY x m with
 | false=>exact⟨s,⟨hA,Ext.refl s j,hx,g,Int.le_refl _,g.has⟩,MInv.other (fun _ h=>by cases h) (by simp [msN]) (by simp [msN]) (fun h=>by simp [msN] at h)⟩
 | true=>
  have hy':=hy;simp only [askY,Bool.and_eq_true,Bool.or_eq_true,decide_eq_true_eq] at hy';obtain⟨h1,h2,h3⟩:=hy';obtain⟨s',a,b,c,d⟩:=hx.voted hA hm hk h1 hf0 h2 h3;have hr:x.ro=0:=by
   have hin:=ro_in g.ro;by_cases r1:x.ro=1
   ·have:=(g.r1 r1).1;have:=g.i0;omega
   ·by_cases r2:x.ro=2
    ·have:=(g.r2 r2).1;have:=g.i0;omega
    ·omega
  have hr0:=g.r0 hr;refine⟨s',⟨a,c,b,⟨g.p1,g.p7,g.i0,g.ip,g.t0,g.t1,(by show -1≤m.fr;omega),hfp,g.lg,g.ll,g.c0,g.cl,?_⟩,Int.le_refl _,g.has⟩,MInv.other (fun _ _=> ?_) (by simp [msN]) (by simp [msN]) (fun h=>by simp [msN] at h)⟩
  ·show zC_ x.id x.pe x.te m.fr x.ro x.log.length x.vs x.mt=true;rw [hr,goodRo_0,hr0.1,hr0.2];simp
  ·show s'.V x.id.toNat x.te=some m.fr.toNat;rw [hi,Int.toNat_natCast,←h1];exact d
theorem Went.vote {n:Nat} {s:Sys} {j:Nat} {x:Nd} {m:Ms} (hA:AInv n s) (hx:NInv n s j x) (g:Gd x) (hi:x.id=(j:Int)) (hp:x.pe=(n:Int)) (hm:MInv n s m) (hk:m.ki=2) (hf0:0≤m.fr) (hfp:m.fr<x.pe) (hd:m.dst=x.id):
  ∃s',Went n s j x s' (votN x m):=by
 unfold votN
 cases hy:votY x m with
 | false=>exact⟨s,hA,Ext.refl s j,hx,g,Int.le_refl _,g.has⟩
 | true=>
  simp only [votY,Bool.and_eq_true,decide_eq_true_eq] at hy;obtain⟨h1,h2,h3⟩:=hy;obtain⟨r1,r2,r3,r4,r5,r6⟩:=g.r1 h3;have hV:s.V m.fr.toNat (s.tm j)=some j:=by
   have:=hm.vot hk h2;rw [h1,hx.te,hd,hi,Int.toNat_natCast] at this;exact this
  have hvs:=gV_iff.1 r3;simp only [if_true];unfold vbN
  split
  ·exact⟨s,hA,Ext.refl s j,hx,g,Int.le_refl _,g.has⟩
  ·rename_i hh
   have hnm:m.fr ∉ x.vs:=fun q=>hh (hsI_iff.2 q)
   split
   ·rename_i hq
    have C:=hx.counts h3 (m.fr::x.vs) m.fr.toNat hV (fun v hv=>by
     rcases List.mem_cons.1 hv with rfl | hv
     ·right;omega
     ·exact .inl hv)
    have hmtl:(mtZ x.pe x.id x.log.length).length=x.pe.toNat:=by simp [mtZ]
    have hmt:∀i (h:i<(mtZ x.pe x.id x.log.length).length),(mtZ x.pe x.id x.log.length)[i]=if x.id.toNat=i then (x.log.length:Int) else 0:=fun i h=>by
     simp only [mtZ,List.getElem_set,List.getElem_replicate]
    have hil:x.id.toNat<x.pe.toNat:=by have:=g.i0;have:=g.ip;omega
    obtain⟨a,b,c⟩:=C.wins hA h3 (by show 0<x.te;omega) (List.nodup_cons.2 ⟨hnm,hvs.2.imp fun {a b} hab=>by omega⟩) (fun v hv=>by
     rcases List.mem_cons.1 hv with rfl | hv
     ·omega
     ·have:=hvs.1 v hv;omega) (by show (n:Int)<2*(((m.fr::x.vs).length:Nat):Int);rw [List.length_cons];omega) (mtZ x.pe x.id x.log.length) (fun i h=>by
     rw [hmt i h]
     split
     ·exact .inr ⟨by omega,Int.le_refl _⟩
     ·exact .inl (Int.le_refl _))
    refine⟨_,a,c,b,⟨g.p1,g.p7,g.i0,g.ip,g.t0,g.t1,g.v0,g.vp,g.lg,g.ll,g.c0,g.cl,?_⟩,Int.le_refl _,g.has⟩;show zC_ x.id x.pe x.te x.vo 2 x.log.length [] (mtZ x.pe x.id x.log.length)=true;have hgm:gM x.log.length (mtZ x.pe x.id x.log.length)=true:=gM_of fun i h=>by
     rw [hmt i h];split <;>omega
    have hgd:(mtZ x.pe x.id x.log.length).getD x.id.toNat 0=(x.log.length:Int):=by
     rw [ya_ _ _ (by rw [hmtl];exact hil),hmt,if_pos rfl]
    rw [goodRo_2];simp only [ownT,goodMt,hgm,hgd,hmtl,r1];have:=g.p1;simp;omega
   ·rename_i hq
    have C:=hx.counts h3 (putV x.vs m.fr) m.fr.toNat hV (fun v hv=>by
     rcases putV_mem.1 hv with hv | rfl
     ·exact .inl hv
     ·right;omega)
    refine⟨s,hA,Ext.refl s j,C,⟨g.p1,g.p7,g.i0,g.ip,g.t0,g.t1,g.v0,g.vp,g.lg,g.ll,g.c0,g.cl,?_⟩,Int.le_refl _,g.has⟩;show zC_ x.id x.pe x.te x.vo x.ro x.log.length (putV x.vs m.fr) x.mt=true;rw [h3,goodRo_1,r6];have hgv:gV x.pe (putV x.vs m.fr)=true:=gV_iff.2 ⟨fun v hv=>by
     rcases putV_mem.1 hv with hv | rfl
     ·exact hvs.1 v hv
     ·omega,putV_rising hvs.2 hnm⟩
    have hhs:hsI (putV x.vs m.fr) x.id=true:=hsI_iff.2 (putV_mem.2 (.inl (hsI_iff.1 r4)));simp only [ownT,goodVs,hgv,hhs,putV_length,r1];simp;omega
theorem lgW_len (P:List En) (es:List En) (ix:Nat) (h1:ix≤P.length) (h2:P.length≤60) (h3:ix+es.length≤60):(lgW P ix es).length≤60:=by
 rw [lgW_fi]
 split
 ·simp only [List.length_append,List.length_take,List.length_drop];omega
 ·exact h2
theorem lgW_mem {P:List En} {es:List En} {ix:Nat} {e:En} (h:e∈lgW P ix es):e∈P∨e∈es:=by
 rw [lgW_fi] at h
 split at h
 ·rcases List.mem_append.1 h with h | h
  ·exact .inl (List.mem_of_mem_take h)
  ·exact .inr (List.mem_of_mem_drop h)
 ·exact .inl h
theorem Went.append {n:Nat} {s:Sys} {j:Nat} {x:Nd} {m:Ms} (hA:AInv n s) (hx:NInv n s j x) (g:Gd x) (hi:x.id=(j:Int)) (hm:MInv n s m) (hk:m.ki=3) (hge:m.te≤x.te) (hf0:0≤m.fr) (hkd:zR_ 3 m.te m.ix m.be m.co m.ye m.es=true):
  ∃s',Went n s j x s' (appN x m)∧MInv n s' (appM x m)∧appB x m=true:=by
 obtain⟨⟨k1,k2,k3,k4⟩,k5,k6,k7,k8,k9⟩:=kind_3 hkd;have hno:∀(s':Sys) (ix:Int),MInv n s' (msN 4 x.id m.fr x.te ix false):=fun s' ix=>MInv.other (fun h=>by simp [msN] at h) (by simp [msN]) (by simp [msN]) (fun _ h=>by cases h);by_cases hte:m.te<x.te
 ·have e1:appN x m=x:=by unfold appN;rw [if_pos hte]
  have e2:appM x m=msN 4 x.id m.fr x.te 0 false:=by unfold appM;rw [if_pos hte]
  have e3:appB x m=true:=by simp [appB,hte]
  rw [e1,e2];exact⟨s,⟨hA,Ext.refl s j,hx,g,Int.le_refl _,g.has⟩,hno _ _,e3⟩
 ·have htt:m.te=x.te:=by omega
  cases hb:fitsB x m with
  | false=>
   have e1:appN x m=foN x:=by unfold appN;rw [if_neg hte,hb];rfl
   have e2:appM x m=msN 4 x.id m.fr x.te (noIx x.log.length m.ix) false:=by unfold appM;rw [if_neg hte,hb];rfl
   have e3:appB x m=true:=by simp [appB,hb]
   rw [e1,e2];exact⟨s,⟨hA,Ext.refl s j,hx.follow,g.fo,Int.le_refl _,g.has⟩,hno _ _,e3⟩
  | true=>
   have e1:appN x m= { foN x with log:=lgW x.log m.ix.toNat m.es,co:=apC x m } :=by unfold appN;rw [if_neg hte,hb];rfl
   have e2:appM x m=msN 4 x.id m.fr x.te (m.ix+(m.es.length:Int)) true:=by unfold appM;rw [if_neg hte,hb];rfl
   have hb':=hb;simp only [fitsB,Bool.and_eq_true,decide_eq_true_eq] at hb';have c0:=g.c0;have cl:=g.cl;have ll:=g.ll;have hix:m.ix.toNat≤x.log.length:=by omega
   obtain⟨s',a,b,c,⟨d1,d2,d3⟩,hh⟩:=hx.append hA hm hk htt hix hb'.2 (apC x m) (by unfold apC;omega);have hco:=b.co.len;have hlog:s'.lg j=lgW x.log m.ix.toNat m.es:=b.lg.symm;rw [hlog] at hco;have htm:s'.tm j=x.te:=b.te.symm;have hlo:=(a.lo j).1;rw [hlog,htm] at hlo;have hap:0≤apC x m∧x.co≤apC x m:=by unfold apC;omega
   rw [e1,e2];refine⟨s',⟨a,c,b,⟨g.p1,g.p7,g.i0,g.ip,g.t0,g.t1,g.v0,g.vp,?_,?_,hap.1,?_,?_⟩,hap.2,hh⟩,?_,?_⟩
   ·show gE x.te 0 (lgW x.log m.ix.toNat m.es)=true;refine gE_of (fun i hi'=> ?_) hlo.2.1;have hge:yf_ (lgW x.log m.ix.toNat m.es)[i]=true:=by
     rcases lgW_mem (List.getElem_mem hi') with q | q
     ·obtain⟨u,hu,e⟩:=List.getElem_of_mem q;rw [←e];exact (gE_all g.lg u hu).1
     ·obtain⟨u,hu,e⟩:=List.getElem_of_mem q;rw [←e];exact (gE_all k6 u hu).1
    refine⟨hge,?_,(hlo.2.2 i hi').1⟩;simp only [yf_,Bool.and_eq_true,decide_eq_true_eq] at hge;omega
   ·show (lgW x.log m.ix.toNat m.es).length≤60;exact lgW_len _ _ _ hix ll (by omega)
   ·show apC x m≤((lgW x.log m.ix.toNat m.es).length:Int);have:(apC x m).toNat≤(lgW x.log m.ix.toNat m.es).length:=hco;omega
   ·show zC_ _ _ _ _ 0 _ [] []=true;rw [goodRo_0];simp
   ·refine MInv.other (fun h=>by simp [msN] at h) (by simp [msN]) (by simp [msN]) (fun _ _=> ?_);show s'.g.el x.te∧s'.wh x.te=m.fr.toNat∧(m.ix+(m.es.length:Int)).toNat≤s'.g.ack x.id.toNat x.te;rw [←htt,hi,Int.toNat_natCast];exact⟨d1,d2,by omega⟩
   ·have hap:apY x m=true:=by
     simp only [apY,Bool.or_eq_true,decide_eq_true_eq];by_cases hf:fiK x.log m.ix.toNat m.es=m.es.length
     ·exact .inl hf
     ·right
      have hfl:=fiK_le x.log m.es m.ix.toNat;have hfi:=fiK_in x.log m.es m.ix.toNat hix;have hst:=fiK_step x.log m.es m.ix.toNat (fiK x.log m.ix.toNat m.es) (Nat.le_refl _) (by omega);have hl:=lgW_fi x.log m.es m.ix.toNat;rw [if_pos (by omega)] at hl;apply Classical.byContradiction;intro hc;have hlt:m.ix.toNat+fiK x.log m.ix.toNat m.es<x.co.toNat:=by omega
      have hat:=hh.at hlt;have hxl:m.ix.toNat+fiK x.log m.ix.toNat m.es<x.log.length:=by omega
      have hne:¬(m.ix.toNat+fiK x.log m.ix.toNat m.es<x.log.length∧(x.log.getD (m.ix.toNat+fiK x.log m.ix.toNat m.es) En.zero).t=m.es[fiK x.log m.ix.toNat m.es].t):=fun q=>by have:=hst.2 q;omega
      apply hne;refine⟨hxl,?_⟩;have e5:x.log.getD (m.ix.toNat+fiK x.log m.ix.toNat m.es) En.zero=x.log[m.ix.toNat+fiK x.log m.ix.toNat m.es]:=by simp [List.getD,hxl]
      rw [e5,←hat]
      congr 1
      have e6:(lgW x.log m.ix.toNat m.es)[m.ix.toNat+fiK x.log m.ix.toNat m.es]? =some m.es[fiK x.log m.ix.toNat m.es]:=by
       rw [hl,List.getElem?_append_right (by rw [List.length_take];omega)];simp only [List.length_take,List.getElem?_drop];rw [show m.ix.toNat+fiK x.log m.ix.toNat m.es-min (m.ix.toNat+fiK x.log m.ix.toNat m.es) x.log.length=0 from by omega];simp
      exact (List.getElem_eq_iff _).2 e6
    simp [appB,hap]
theorem Went.told {n:Nat} {s:Sys} {j:Nat} {x:Nd} {m:Ms} (hA:AInv n s) (hx:NInv n s j x) (g:Gd x) (hi:x.id=(j:Int)) (hm:MInv n s m) (hk:m.ki=4) (hf0:0≤m.fr) (hfp:m.fr<x.pe) (hne:m.fr≠x.id) (hix:0≤m.ix):
  ∃s',Went n s j x s' (tolN x m):=by
 unfold tolN
 cases hy:tolY x m with
 | false=>exact⟨s,hA,Ext.refl s j,hx,g,Int.le_refl _,g.has⟩
 | true=>
  simp only [tolY,Bool.and_eq_true,decide_eq_true_eq] at hy;obtain⟨h1,h3⟩:=hy;obtain⟨r1,r2,r3,r4,r5,r6⟩:=g.r2 h3;simp only [if_true];have hfl:m.fr.toNat<x.mt.length:=by omega
  have hgd:x.mt.getD m.fr.toNat 0=x.mt[m.fr.toNat]:=ya_ _ _ hfl;have hll:(tolX x.mt m.fr m.ix m.ye).length=x.mt.length:=by simp [tolX]
  have hat:∀i (h:i<(tolX x.mt m.fr m.ix m.ye).length),(m.fr.toNat=i∧(tolX x.mt m.fr m.ix m.ye)[i]=if m.ye=true then max x.mt[m.fr.toNat] m.ix else min x.mt[m.fr.toNat] m.ix)∨(m.fr.toNat≠i∧(tolX x.mt m.fr m.ix m.ye)[i]=x.mt[i]'(by rw [←hll];exact h)):=fun i h=>by
   simp only [tolX,hgd,List.getElem_set]
   split
   ·rename_i e;exact .inl ⟨e,rfl⟩
   ·rename_i e;exact .inr ⟨e,rfl⟩
  have C:=hx.matched h3 (tolX x.mt m.fr m.ix m.ye) (fun i hi'=>by
   rcases hat i hi' with⟨e,q⟩ | ⟨e,q⟩
   ·subst e;rw [q]
    split
    ·rename_i hyes
     have ht:=hm.tol hk hyes;have ht3:m.ix.toNat≤s.g.ack m.fr.toNat (s.tm j):=by rw [←hx.te,←h1];exact ht.2.2
     by_cases hc:m.ix≤x.mt[m.fr.toNat]
     ·exact .inl ⟨hfl,by omega⟩
     ·right;omega
    ·exact .inl ⟨hfl,by omega⟩
   ·exact .inl ⟨by rw [←hll];exact hi',by rw [q];omega⟩)
  obtain⟨w1,w2,w3,w4⟩:=C.le h3;refine⟨s,hA,Ext.refl s j,C,⟨g.p1,g.p7,g.i0,g.ip,g.t0,g.t1,g.v0,g.vp,g.lg,g.ll,g.c0,g.cl,?_⟩,Int.le_refl _,g.has⟩;show zC_ x.id x.pe x.te x.vo x.ro x.log.length x.vs (tolX x.mt m.fr m.ix m.ye)=true;have hlog:x.log=s.g.LL (s.tm j):=hx.lg.trans w3;have hgm:gM x.log.length (tolX x.mt m.fr m.ix m.ye)=true:=gM_of fun i h=>by
   have u1:=w4 i h;have u2:=(hA.ac i (s.tm j)).1;rw [←hlog] at u2;refine⟨?_,by have:(tolX x.mt m.fr m.ix m.ye)[i]≤(s.g.ack i (s.tm j):Int):=u1;omega⟩;rcases hat i h with⟨e,q⟩ | ⟨e,q⟩
   ·rw [q];have:=gM_all r5 m.fr.toNat hfl
    split <;>omega
   ·rw [q];exact (gM_all r5 i _).1
  have hidl:x.id.toNat<x.mt.length:=by have:=g.i0;have:=g.ip;omega
  have hgd2:(tolX x.mt m.fr m.ix m.ye).getD x.id.toNat 0=(x.log.length:Int):=by
   rw [ya_ _ _ (by rw [hll];exact hidl)];rcases hat x.id.toNat (by rw [hll];exact hidl) with⟨e,q⟩ | ⟨e,q⟩
   ·have:=g.i0;omega
   ·rw [q];rw [ya_ _ _ hidl] at r6;exact r6
  rw [h3,goodRo_2,r3];simp only [ownT,goodMt,hgm,hgd2,hll,r1];simp;exact⟨r2,r4⟩
theorem Went.msg {n:Nat} {s:Sys} {j:Nat} {x:Nd} {m:Ms} (hA:AInv n s) (hx:NInv n s j x) (g:Gd x) (hi:x.id=(j:Int)) (hp:x.pe=(n:Int)) (hm:MInv n s m) (gm:GM n m) (hd:m.dst=x.id):
  ∃s',Went n s j x s' (hmX x m)∧(∀a∈hmA (hmU x m.te) m,MInv n s' a)∧hmOk x m=true:=by
 obtain⟨a1,a2,a3,a4,a5,a6,a7⟩:=zD_ gm;obtain⟨s1,W1⟩:=Went.up hA hx g (T:=m.te) a6;have hm1:=hm.ext W1.E;have hid:=hmU_id x m.te;have hte:=hmU_te x m.te;have hge:m.te≤(hmU x m.te).te:=by omega
 have hi1:(hmU x m.te).id=(j:Int):=by rw [hid.1];exact hi
 have hp1:(hmU x m.te).pe=(n:Int):=by rw [hid.2];exact hp
 have hd1:m.dst=(hmU x m.te).id:=by rw [hid.1];exact hd
 have key:∃s',Went n s1 j (hmU x m.te) s' (hmN (hmU x m.te) m)∧(∀a∈hmA (hmU x m.te) m,MInv n s' a)∧hmB (hmU x m.te) m=true:=by
  generalize hmU x m.te=y at*;unfold hmN hmA hmB;rcases kind_in a7 with e | e | e | e
  ·obtain⟨s',W,M⟩:=Went.ask W1.A W1.N W1.G hi1 hm1 e (by omega) (by omega) (by omega);simp only [e,if_true,show ¬(1:Int)=3 by decide,if_false];exact⟨s',W,fun a ha=>by rw [List.mem_singleton.1 ha];exact M,trivial⟩
  ·obtain⟨s',W⟩:=Went.vote W1.A W1.N W1.G hi1 hp1 hm1 e (by omega) (by omega) hd1;simp only [e,if_true,show ¬(2:Int)=1 by decide,show ¬(2:Int)=3 by decide,if_false];exact⟨s',W,fun a ha=>by simp at ha,trivial⟩
  ·rw [e] at a7;obtain⟨s',W,M,B⟩:=Went.append W1.A W1.N W1.G hi1 hm1 e hge (by omega) a7;simp only [e,if_true,show ¬(3:Int)=1 by decide,show ¬(3:Int)=2 by decide,if_false];exact⟨s',W,fun a ha=>by rw [List.mem_singleton.1 ha];exact M,B⟩
  ·rw [e] at a7;obtain⟨s',W⟩:=Went.told W1.A W1.N W1.G hi1 hm1 e (by omega) (by omega) (by omega) (kind_4 a7).1.1;simp only [e,show ¬(4:Int)=1 by decide,show ¬(4:Int)=2 by decide,show ¬(4:Int)=3 by decide,if_false];exact⟨s',W,fun a ha=>by simp at ha,trivial⟩
 obtain⟨s',W,M,B⟩:=key;have hp2:(hmN (hmU x m.te) m).pe=(n:Int):=by rw [(hmN_id _ _).2.1];exact hp1
 have WW:=(W1.trans W g.c0).cm hp2;refine⟨s',WW,M,?_⟩;have hgm:gMi x.pe m=true:=by rw [hp];exact gm
 simp only [hmOk,hmP,g.good,hgm,B,Bool.and_eq_true,decide_eq_true_eq,true_and];exact⟨hd,WW.G.good⟩
theorem noteL_fits {n:Nat} {s:Sys} {j:Nat} {x a:Nd} {L:List Ld} (hx:NInv n s j x) (hi:x.id=(j:Int)):∀l∈zQ_ L a x,l∈L∨(s.g.el l.t∧(s.wh l.t:Int)=l.n):=fun l hl=>by
 rcases noteL_mem hl with h1 | ⟨h1,rfl⟩
 ·exact .inl h1
 ·obtain⟨p,w,_,_⟩:=hx.le h1;refine .inr ⟨?_,?_⟩
  ·show s.g.el x.te;rw [hx.te];exact p
  ·show (s.wh x.te:Int)=x.id;rw [hx.te,w,hi]
theorem Went.time {n:Nat} {s:Sys} {j:Nat} {x:Nd} (hA:AInv n s) (hx:NInv n s j x) (g:Gd x) (hi:x.id=(j:Int)) (hp:x.pe=(n:Int)):∃s',AInv n s'∧Ext s s' j∧NInv n s' j (tmX x)∧∀a∈tmA x,MInv n s' a:=by
 obtain⟨s1,a,b,c,d⟩:=hx.asks hA;have i0:=g.i0;have ip:=g.ip;by_cases h2:x.pe<2
 ·have e0:x.id=0:=by omega
  have ej:j=0:=by omega
  have en:n=1:=by omega
  have e:tmX x=({ (⟨x.id,x.pe,x.te+1,j,x.co,1,x.log,[(j:Int)],[]⟩:Nd) with ro:=2,vs:= [],mt:= [(x.log.length:Int)] } :Nd):=by
   unfold tmX tmN;rw [if_pos h2,hi]
  obtain⟨a',b',c'⟩:=b.wins a rfl (by have:=g.t0;show 0<x.te+1;omega) (by simp) (fun v hv=>by simp at hv;omega) (by simp;omega) [(x.log.length:Int)] (fun i h=>by
   simp at h;subst h;exact .inr ⟨ej.symm,Int.le_refl _⟩)
  rw [e];refine⟨_,a',c.trans c',b',fun m hm=> ?_⟩;obtain⟨q,q1,q2,_⟩:=tmA_mem hm;omega
 ·have e:tmX x=⟨x.id,x.pe,x.te+1,j,x.co,1,x.log,[(j:Int)],[]⟩:=by unfold tmX tmN;rw [if_neg h2,hi]
  rw [e];refine⟨s1,a,c,b,fun m hm=> ?_⟩;obtain⟨q,q1,q2,rfl⟩:=tmA_mem hm;refine⟨fun _=>⟨x.log,?_,rfl,(lastT_tmAt _).symm⟩,fun h=>by simp at h,fun h=>by simp at h,fun h=>by simp at h⟩;show s1.C (x.te+1) x.id.toNat=some x.log;rw [hi,Int.toNat_natCast];exact d
theorem PG.fits {p:Nat} {N:List Nd} {M:List Ms} {L:List Ld} (h:PG p N M L) (hF:Fits p N M L) (s:Sp) (hs:stB N M s=true):Fits p (stN N M s) (stM N M s) (stL N M L s):=by
 obtain⟨y,hS⟩:=hF.to;obtain⟨hA,hn,hN,hM,hL⟩:=id hS;by_cases e1:s.ki=1
 ·simp only [stB,stN,stM,stL,e1,if_true,Bool.and_eq_true] at hs ⊢;obtain⟨h2,ea,ei⟩:=atN_eq hs.1;obtain⟨g1,g2,g3,g4⟩:=h.g _ h2;rw [ea];obtain⟨y',a,c,b,d⟩:=Went.time hA (hN _ h2) g1 g2 g3;exact (hS.step a c b (fun m hm=>(pushM_mem hm).imp id (d m)) (noteL_fits b (by rw [show (tmX N[s.no.toNat]).id=(N[s.no.toNat]).id from (tmN_id _ _ _ _ _).1];exact g2))).fits
 by_cases e2:s.ki=2
 ·simp only [stB,stN,stM,stL,e2,if_true,Bool.and_eq_true,show ¬(2:Int)=1 by decide,if_false] at hs ⊢;obtain⟨hk,ek,_⟩:=atM_eq hs.1;rw [ek] at hs ⊢;have hgm:=h.m _ (List.getElem_mem hk);have hdst:=(zD_ hgm).2.2.1;have hid:isP (M[s.k.toNat]).dst N.length=true:=by simp only [isP,Bool.and_eq_true,decide_eq_true_eq];rw [h.n];exact hdst
  obtain⟨h2,ea,ei⟩:=atN_eq hid;rw [ea];obtain⟨g1,g2,g3,g4⟩:=h.g _ h2;obtain⟨y',W,d,_⟩:=Went.msg hA (hN _ h2) g1 g2 g3 (hM _ (List.getElem_mem hk)) hgm (by rw [g2];exact ei.symm);refine (hS.step W.A W.E W.N (fun m hm=> ?_) (noteL_fits W.N (by rw [(hmX_id _ _).1];exact g2))).fits;rcases pushM_mem hm with q | q
  ·exact .inl (List.mem_of_mem_eraseIdx q)
  ·exact .inr (d m q)
 by_cases e3:s.ki=3
 ·simp only [stB,stN,stM,stL,e3,if_true,show ¬(3:Int)=1 by decide,show ¬(3:Int)=2 by decide,show ¬(3:Int)=5 by decide,show ¬(3:Int)=7 by decide,if_false] at hs ⊢;exact hF.net (fun m hm=>List.mem_of_mem_eraseIdx hm)
 by_cases e4:s.ki=4
 ·simp only [stB,stN,stM,stL,e4,if_true,show ¬(4:Int)=1 by decide,show ¬(4:Int)=2 by decide,show ¬(4:Int)=3 by decide,show ¬(4:Int)=5 by decide,show ¬(4:Int)=7 by decide,if_false,Bool.and_eq_true] at hs ⊢;obtain⟨hk,ek,_⟩:=atM_eq hs.1;rw [ek];refine hF.net (fun m hm=> ?_);rcases pushM_mem hm with q | q
  ·exact q
  ·rw [List.mem_singleton.1 q];exact List.getElem_mem hk
 by_cases e5:s.ki=5
 ·simp only [stB,stN,stM,stL,e5,if_true,show ¬(5:Int)=1 by decide,show ¬(5:Int)=2 by decide,show ¬(5:Int)=3 by decide,show ¬(5:Int)=4 by decide,show ¬(5:Int)=6 by decide,if_false,Bool.and_eq_true] at hs ⊢;obtain⟨h2,ea,ei⟩:=atN_eq hs.1;rw [ea] at hs ⊢;obtain⟨g1,g2,g3,g4⟩:=h.g _ h2;have hP:=hs.2;simp only [prOk,Bool.and_eq_true,decide_eq_true_eq] at hP;obtain⟨r1,r2,r3,r4,r5,r6⟩:=g1.r2 hP.2.1;have i0:=g1.i0;have ip:=g1.ip;obtain⟨y',a,b,c⟩:=(hN _ h2).proposes hA hP.2.1 s.d ((N[s.no.toNat]).mt.set (N[s.no.toNat]).id.toNat (((N[s.no.toNat]).log.length:Int)+1)) (fun i hi=>by
   simp only [List.length_set] at hi;rw [List.getElem_set]
   split
   ·exact .inr ⟨by omega,rfl⟩
   ·exact .inl ⟨hi,rfl⟩)
  have b2:=b.commit hP.2.1 (by show ((N[s.no.toNat]).mt.set _ _).length=p;rw [List.length_set];omega) g3;have e:prX N[s.no.toNat] s.d= { ({ N[s.no.toNat] with log:=(N[s.no.toNat]).log++ [⟨(N[s.no.toNat]).te,s.d⟩],mt:=(N[s.no.toNat]).mt.set (N[s.no.toNat]).id.toNat (((N[s.no.toNat]).log.length:Int)+1) } :Nd) with co:=zr_ (N[s.no.toNat]).te (N[s.no.toNat]).pe (N[s.no.toNat]).co ((N[s.no.toNat]).log++ [⟨(N[s.no.toNat]).te,s.d⟩]) ((N[s.no.toNat]).mt.set (N[s.no.toNat]).id.toNat (((N[s.no.toNat]).log.length:Int)+1)) ((N[s.no.toNat]).log++ [(⟨(N[s.no.toNat]).te,s.d⟩:En)]).length } :=by
   simp [prX,prN,hP.2.1]
  rw [e];exact (hS.step a c b2 (fun m hm=> .inl hm) (fun l hl=> .inl hl)).fits
 by_cases e6:s.ki=6
 ·simp only [stB,stN,stM,stL,e6,if_true,show ¬(6:Int)=1 by decide,show ¬(6:Int)=2 by decide,show ¬(6:Int)=3 by decide,show ¬(6:Int)=4 by decide,show ¬(6:Int)=5 by decide,show ¬(6:Int)=7 by decide,if_false,Bool.and_eq_true] at hs ⊢;obtain⟨h2,ea,ei⟩:=atN_eq hs.1;rw [ea] at hs ⊢;obtain⟨g1,g2,g3,g4⟩:=h.g _ h2;have ho:=hs.2;simp only [afOk,isP,Bool.and_eq_true,decide_eq_true_eq,Bool.not_eq_true',decide_eq_false_iff_not] at ho;obtain⟨_,hr,⟨b1,b2⟩,b3,b4,b5⟩:=ho;obtain⟨r1,r2,r3,r4,r5,r6⟩:=g1.r2 hr;have hil:s.k.toNat<(N[s.no.toNat]).mt.length:=by omega
  have hmm:=gM_all r5 s.k.toNat hil;have hgd:(N[s.no.toNat]).mt.getD s.k.toNat 0=(N[s.no.toNat]).mt[s.k.toNat]:=ya_ _ _ hil;refine hF.send _ (fun s' hs' m hm=> ?_);rcases pushM_mem hm with q | q
  ·exact .inl q
  ·right
   rw [List.mem_singleton.1 q];refine MInv.sent hs'.1 (hs'.2.2.1 _ h2) hr rfl g2 rfl ?_ rfl rfl _ rfl;show ((N[s.no.toNat]).mt.getD s.k.toNat 0).toNat≤_;rw [hgd];omega
 by_cases e7:s.ki=7
 ·simp only [stB,stN,stM,stL,e7,if_true,show ¬(7:Int)=1 by decide,show ¬(7:Int)=2 by decide,show ¬(7:Int)=3 by decide,show ¬(7:Int)=4 by decide,show ¬(7:Int)=5 by decide,show ¬(7:Int)=6 by decide,if_false,Bool.and_eq_true] at hs ⊢;obtain⟨h2,ea,ei⟩:=atN_eq hs.1;rw [ea];exact hF.crash _ h2
 ·simp [stB,e1,e2,e3,e4,e5,e6,e7] at hs
end Go.Proofs.Ytapfhhmimkkhnaa
