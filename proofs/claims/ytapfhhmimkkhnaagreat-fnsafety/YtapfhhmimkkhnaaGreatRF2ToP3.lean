/-
  Agreement, plainly: what an append makes of a log; what stays kept and complete when one proposes, accepts, or goes to a later term.
  Agreement, plainly: an election, and what is decided.
  Agreement, plainly: the whole invariant, and that each event keeps it.
  Agreement, plainly: who leads proposes, who follows accepts; what is committed stays so.
  Numbers in rows: eqIntS, szIntS, toIntS, markIntS, heldIntS; an append of one.
  Marks in a list of entries: markText, markEntryS, heldEntryS; rows marked and held, nil or not.
  Nodes and messages, plainly; the small functions: isPeer, l1In, l11Peers, goodEntry, l3Entry, areMost, isOwnTerm, Contains, l10Has.
  slices.Index, slices.Contains, l10Has; goodEntries, l11Entries.
  A node is good: the program's side (hasGoodVotes, hasGoodMatch, hasGoodRole, GoodNode).
-/
import Derived.Test.YtapfhhmimkkhnaaGreatAToRF1
import Derived.Deep.SlicePairs
import Derived.Lib.SmallJoins
namespace Go.Proofs.YtapfhhmimkkhnaaGreat
set_option linter.unusedVariables false
def lgW (P:List En) (ix:Nat):List En→List En
 | []=>P
 | e::r=>if ix<P.length∧(P.getD ix En.zero).t=e.t then lgW P (ix+1) r else P.take ix++(e::r)
def uw_ (L:List En) (ix:Nat) (es:List En):Prop:=∀k (h:k<es.length),∃h2:ix+k<L.length,es[k]=L[ix+k]
theorem uw_.tail {L:List En} {ix:Nat} {e:En} {r:List En} (h:uw_ L ix (e::r)):uw_ L (ix+1) r:=fun k hk=>by
 obtain⟨h2,e2⟩:=h (k+1) (by simpa using hk);have e3:ix+(k+1)=ix+1+k:=by omega
 refine⟨by omega,?_⟩;simp only [List.getElem_cons_succ] at e2;rw [e2]
 congr 1
theorem uw_.take {L:List En} {ix:Nat} {es:List En} (h:uw_ L ix es) (hix:ix≤L.length):L.take ix++es=L.take (ix+es.length)∧ix+es.length≤L.length:=by
 induction es generalizing ix with
 | nil=>simp;omega
 | cons e r ih=>
  obtain⟨h2,e2⟩:=h 0 (by simp);simp only [List.getElem_cons_zero,Nat.add_zero] at e2 h2;obtain⟨i1,i2⟩:=ih h.tail (by omega);refine⟨?_,by simp only [List.length_cons];omega⟩;rw [show ix+(e::r).length=ix+1+r.length from by simp;omega,←i1,←List.take_append_getElem h2,←e2];simp
theorem accept {LL:Int→List En} {P L:List En} (hP:Ok LL P) (hL:Ok LL L) (es:List En):∀ix,Has P L ix→uw_ L ix es→
  Has (lgW P ix es) L (ix+es.length)∧(lgW P ix es=P∨lgW P ix es=L.take (ix+es.length))∧∀z,Has P L z→Has (lgW P ix es) L z:=by
 induction es with
 | nil=>intro ix hx hp;exact⟨by simpa [lgW] using hx,.inl rfl,fun z hz=>hz⟩
 | cons e r ih=>
  intro ix hx hp;obtain⟨h2,e2⟩:=hp 0 (by simp);simp only [List.getElem_cons_zero,Nat.add_zero] at e2 h2;by_cases hc:ix<P.length∧(P.getD ix En.zero).t=e.t
  ·have hg:P.getD ix En.zero=P[ix]'hc.1:=by simp [List.getD,hc.1]
   have hm:Has P L (ix+1):=matching hP hL ix hc.1 h2 (by have h3:=hc.2;rw [hg] at h3;exact h3.trans (congrArg En.t e2));have:=ih (ix+1) hm hp.tail;rw [show ix+1+r.length=ix+(e::r).length from by simp;omega] at this;simp only [lgW,if_pos hc];exact this
  ·obtain⟨t1,t2⟩:=hp.take hx.2.1;have hl:lgW P ix (e::r)=L.take (ix+(e::r).length):=by
    simp only [lgW,if_neg hc];rw [hx.2.2,t1]
   rw [hl];refine⟨th_ L _ _ (Nat.le_refl _) t2,.inr rfl,fun z hz=>th_ L _ _ ?_ t2⟩;apply Classical.byContradiction;intro hn;have hzi:ix<z:=by simp only [List.length_cons] at hn;omega
   have hpl:ix<P.length:=Nat.lt_of_lt_of_le hzi hz.1;have hg:P.getD ix En.zero=P[ix]'hpl:=by simp [List.getD,hpl]
   exact hc ⟨hpl,by rw [hg,hz.at hzi,e2]⟩
theorem Kept.accept {g:Gh} {P P':List En} {j:Nat} {W:Int} (h:Kept g P j (W+1)) (hel:g.el W) (hEL:Has (g.E W) (g.LL W) (g.E W).length)
  (hz:∀z,Has P (g.LL W) z→Has P' (g.LL W) z):Kept g P' j (W+1):=by
 intro T x hT hx hxT hak;rcases h T x hT hx hxT hak with h1 | h1
 ·by_cases hTW:T=W
  ·subst hTW;exact .inl (hz _ h1)
  ·by_cases hE:Has (g.E W) (g.LL T) (x+1)
   ·have hLW:Has (g.LL W) (g.LL T) (x+1):=(hEL.mono hE.1).symm.trans hE;exact .inl ((hz _ (h1.trans hLW.symm)).trans hLW)
   ·exact .inr ⟨W,by omega,by omega,hel,hE⟩
 ·exact .inr h1
theorem Kept.later {g:Gh} {P:List En} {j:Nat} {B B':Int} (h:Kept g P j B) (hB:B≤B') (hn:∀T,B≤T→g.ack j T=0):Kept g P j B':=by
 intro T x hT hx hxT hak;by_cases hTB:T<B
 ·rcases h T x hTB hx hxT hak with h1 | ⟨U,h1,h2,h3⟩
  ·exact .inl h1
  ·exact .inr ⟨U,h1,by omega,h3⟩
 ·rw [hn T (by omega)] at hak;omega
theorem Kept.told {g:Gh} {P:List En} {j:Nat} {W:Int} (h:Kept g P j (W+1)) (y:Nat) (hy:Has P (g.LL W) y) (i:Nat):
  Kept { g with ack:=fun i' T=>if i'=j∧T=W then max (g.ack j W) y else g.ack i' T } P j (W+1):=by
 intro T x hT hx hxT hak;dsimp only at hx hxT hak ⊢;by_cases hTW:T=W
 ·subst hTW;simp only [and_self,if_true] at hak;by_cases hxy:x<y
  ·exact .inl (hy.mono (by omega))
  ·exact h T x hT hx hxT (by omega)
 ·rw [if_neg (fun hh=>hTW hh.2)] at hak;exact h T x hT hx hxT hak
theorem Kept.toldOther {g:Gh} {P:List En} {j i:Nat} {B W:Int} (h:Kept g P j B) (y:Nat) (hij:i≠j∨B≤W):
  Kept { g with ack:=fun i' T=>if i'=i∧T=W then max (g.ack i W) y else g.ack i' T } P j B:=by
 intro T x hT hx hxT hak;dsimp only at hx hxT hak ⊢;by_cases hc:j=i∧T=W
 ·exfalso
  rcases hij with h1 | h1
  ·exact h1 hc.1.symm
  ·omega
 ·rw [if_neg hc] at hak;exact h T x hT hx hxT hak
theorem Kept.propose {g:Gh} {P:List En} {j:Nat} {B W:Int} (h:Kept g P j B) (e:En) (hak:∀i T,g.ack i T≤(g.LL T).length):
  Kept { g with LL:=fun T=>if T=W then g.LL W++ [e] else g.LL T } P j B:=by
 intro T x hT hx hxT hk;dsimp only at hx hxT hk ⊢;by_cases hTW:T=W
 ·subst hTW;simp only [if_true] at hx hxT ⊢;have hl:x<(g.LL T).length:=Nat.lt_of_lt_of_le hk (hak j T);rw [List.getElem_append_left hl] at hxT;rcases h T x hT hl hxT hk with h1 | ⟨U,u1,u2,u3,u4⟩
  ·exact .inl (yG_ h1 _)
  ·refine .inr ⟨U,u1,u2,u3,fun hh=>u4 ?_⟩;refine⟨hh.1,by omega,?_⟩;have:=hh.2.2
   rwa [List.take_append_of_le_length (by omega)] at this
 ·simp only [if_neg hTW] at hx hxT ⊢;exact h T x hT hx hxT hk
theorem zJ_.propose {n:Nat} {g:Gh} {tm:Nat→Int} {W:Int} (h:zJ_ n g tm) (e:En) (hak:∀i T,g.ack i T≤(g.LL T).length) (hvot:∀U,g.el U→Maj n fun j=>U≤tm j):
  zJ_ n { g with LL:=fun T=>if T=W then g.LL W++ [e] else g.LL T } tm:=by
 intro T U x hTU hel hx hxT;dsimp only at hel hx hxT ⊢;by_cases hTW:T=W
 ·subst hTW;simp only [if_true] at hx hxT ⊢;by_cases hl:x<(g.LL T).length
  ·rw [List.getElem_append_left hl] at hxT;rcases h T U x hTU hel hl hxT with h1 | h1
   ·exact .inl (yG_ h1 _)
   ·exact .inr h1
  ·refine .inr ((hvot U hel).mono fun j _ hj=> ?_);have:=hak j T;exact⟨by omega,by omega⟩
 ·simp only [if_neg hTW] at hx hxT ⊢;exact h T U x hTU hel hx hxT
theorem zJ_.told {n:Nat} {g:Gh} {tm:Nat→Int} {W:Int} {i:Nat} (h:zJ_ n g tm) (y:Nat) (hW:tm i=W):
  zJ_ n { g with ack:=fun i' T=>if i'=i∧T=W then max (g.ack i W) y else g.ack i' T } tm:=by
 intro T U x hTU hel hx hxT;dsimp only at hel hx hxT ⊢;rcases h T U x hTU hel hx hxT with h1 | h1
 ·exact .inl h1
 ·refine .inr (h1.mono fun j _ hj=>⟨hj.1,?_⟩);rw [if_neg fun hc=>by have:=hj.1;rw [hc.1,hc.2,hW] at this;omega];exact hj.2
theorem zJ_.later {n:Nat} {g:Gh} {tm tm':Nat→Int} (h:zJ_ n g tm) (ht:∀j,tm j≤tm' j):zJ_ n g tm':=by
 intro T U x hTU hel hx hxT;rcases h T U x hTU hel hx hxT with h1 | h1
 ·exact .inl h1
 ·exact .inr (h1.mono fun j _ hj=>⟨by have:=ht j;omega,hj.2⟩)
theorem zJ_.decided {n:Nat} {g:Gh} {tm:Nat→Int} (h:zJ_ n g tm) {T U:Int} {x:Nat} (hTU:T<U) (hel:g.el U) (hx:x<(g.LL T).length) (hxT:(g.LL T)[x].t=T) (hm:Maj n fun j=>x<g.ack j T):Has (g.E U) (g.LL T) (x+1):=by
 rcases h T U x hTU hel hx hxT with h1 | h1
 ·exact h1
 ·obtain⟨j,_,h2,h3⟩:=h1.meet hm;omega
end Go.Proofs.YtapfhhmimkkhnaaGreat
namespace Go.Proofs.YtapfhhmimkkhnaaGreat
open Classical in
set_option linter.unusedVariables false
noncomputable def Gh.elect (g:Gh) (W:Int) (k:Nat) (P:List En):Gh where
 el:=fun T=>T=W∨g.el T
 E:=fun T=>if T=W then P else g.E T
 LL:=fun T=>if T=W then P else g.LL T
 ack:=fun i T=>if i=k∧T=W then P.length else g.ack i T
theorem Gh.elect_LL_ne (g:Gh) {W T:Int} (k:Nat) (P:List En) (h:¬T=W):(g.elect W k P).LL T=g.LL T:=by simp [Gh.elect,h]
theorem Gh.elect_E_ne (g:Gh) {W T:Int} (k:Nat) (P:List En) (h:¬T=W):(g.elect W k P).E T=g.E T:=by simp [Gh.elect,h]
theorem Gh.elect_LL (g:Gh) (W:Int) (k:Nat) (P:List En):(g.elect W k P).LL W=P:=by simp [Gh.elect]
theorem Gh.elect_E (g:Gh) (W:Int) (k:Nat) (P:List En):(g.elect W k P).E W=P:=by simp [Gh.elect]
theorem Gh.elect_ack (g:Gh) {W T:Int} (k i:Nat) (P:List En) (h:¬T=W):(g.elect W k P).ack i T=g.ack i T:=by simp [Gh.elect,h]
theorem Kept.elect {g:Gh} {Q P:List En} {j k:Nat} {B W:Int} (h:Kept g Q j B) (hPW:∀i (h:i<P.length),P[i].t<W) (hne:¬g.el W):Kept (g.elect W k P) Q j B:=by
 intro T x hT hx hxT hak;by_cases hTW:T=W
 ·subst hTW
  exfalso
  have e:=g.elect_LL T k P;have hx2:x<P.length:=by rw [e] at hx;exact hx
  have h1:=hPW x hx2;have h2:((g.elect T k P).LL T)[x]=P[x]:=by congr 1
  rw [h2] at hxT;omega
 ·have e:=g.elect_LL_ne k P hTW;rw [g.elect_ack k j P hTW] at hak;have hx2:x<(g.LL T).length:=by rw [←e];exact hx
  have h2:((g.elect W k P).LL T)[x]=(g.LL T)[x]:=by congr 1
  rw [h2] at hxT;rw [e];rcases h T x hT hx2 hxT hak with h1 | ⟨U,u1,u2,u3,u4⟩
  ·exact .inl h1
  ·have hUW:¬U=W:=fun h=>hne (h ▸ u3);exact .inr ⟨U,u1,u2,.inr u3,by rw [g.elect_E_ne k P hUW];exact u4⟩
theorem zJ_.elect {n:Nat} {g:Gh} {tm:Nat→Int} {W:Int} {k:Nat} {P:List En} (h:zJ_ n g tm) (hPW:∀i (h:i<P.length),P[i].t<W)
  (hP:∀T x,T<W→∀h:x<(g.LL T).length,(g.LL T)[x].t=T→Has P (g.LL T) (x+1)∨Maj n fun j=>T<tm j∧g.ack j T<x+1):zJ_ n (g.elect W k P) tm:=by
 intro T U x hTU hel hx hxT;by_cases hTW:T=W
 ·subst hTW
  exfalso
  have e:=g.elect_LL T k P;have hx2:x<P.length:=by rw [e] at hx;exact hx
  have h1:=hPW x hx2;have h2:((g.elect T k P).LL T)[x]=P[x]:=by congr 1
  rw [h2] at hxT;omega
 ·have e:=g.elect_LL_ne k P hTW;have hx2:x<(g.LL T).length:=by rw [←e];exact hx
  have h2:((g.elect W k P).LL T)[x]=(g.LL T)[x]:=by congr 1
  rw [h2] at hxT;rw [e];have hmj:∀j,(g.elect W k P).ack j T=g.ack j T:=fun j=>g.elect_ack k j P hTW;by_cases hUW:U=W
  ·subst hUW;rw [g.elect_E];rcases hP T x hTU hx2 hxT with h1 | h1
   ·exact .inl h1
   ·exact .inr (h1.mono fun j _ hj=>⟨hj.1,by rw [hmj];exact hj.2⟩)
  ·have hel2:g.el U:=by
    rcases hel with h1 | h1
    ·exact absurd h1 hUW
    ·exact h1
   rw [g.elect_E_ne k P hUW];rcases h T U x hTU hel2 hx2 hxT with h1 | h1
   ·exact .inl h1
   ·exact .inr (h1.mono fun j _ hj=>⟨hj.1,by rw [hmj];exact hj.2⟩)
def xw_ (n:Nat) (g:Gh) (T:Int) (x:Nat):Prop:=∃h:x<(g.LL T).length,(g.LL T)[x].t=T∧g.el T∧Maj n fun j=>x<g.ack j T
def zp_ (n:Nat) (g:Gh) (P:List En) (c:Nat) (B:Int):Prop:=c=0∨∃T x,xw_ n g T x∧T≤B∧c≤x+1∧Has P (g.LL T) c
theorem xw_.later {n:Nat} {g:Gh} {tm:Nat→Int} (hC:zJ_ n g tm) (hEL:∀U,g.el U→Has (g.E U) (g.LL U) (g.E U).length) {T U:Int} {x:Nat} (hd:xw_ n g T x) (hTU:T≤U) (hel:g.el U):Has (g.LL U) (g.LL T) (x+1):=by
 obtain⟨hx,hxT,hT,hm⟩:=hd;by_cases h:T=U
 ·subst h;exact Has.refl _ _ (by omega)
 ·have h1:=hC.decided (by omega) hel hx hxT hm;exact ((hEL U hel).mono h1.1).symm.trans h1
theorem zp_.same {n:Nat} {g:Gh} {tm:Nat→Int} (hC:zJ_ n g tm) (hEL:∀U,g.el U→Has (g.E U) (g.LL U) (g.E U).length) {P Q:List En} {c d:Nat} {B B':Int} (hP:zp_ n g P c B) (hQ:zp_ n g Q d B') (hcd:c≤d):Has P Q c:=by
 rcases hP with rfl | ⟨T,x,d1,t1,c1,a1⟩
 ·exact Has.zero _ _
 ·rcases hQ with rfl | ⟨U,y,d2,t2,c2,a2⟩
  ·obtain rfl:c=0:=by omega
   exact Has.zero _ _
  ·by_cases hTU:T≤U
   ·have h1:=xw_.later hC hEL d1 hTU d2.2.2.1;exact (a1.trans (h1.mono (by omega)).symm).trans (a2.mono hcd).symm
   ·have h1:=xw_.later hC hEL d2 (show U≤T from by omega) d1.2.2.1;exact (a1.trans (h1.mono (by omega))).trans (a2.mono hcd).symm
theorem zp_.lead {n:Nat} {g:Gh} {tm:Nat→Int} (hC:zJ_ n g tm) (hEL:∀U,g.el U→Has (g.E U) (g.LL U) (g.E U).length) {P:List En} {c:Nat} {B U:Int} (hP:zp_ n g P c B) (hBU:B≤U) (hel:g.el U):Has P (g.LL U) c:=by
 rcases hP with rfl | ⟨T,x,d1,t1,c1,a1⟩
 ·exact Has.zero _ _
 ·exact a1.trans ((xw_.later hC hEL d1 (by omega) hel).mono (by omega)).symm
theorem zp_.append {n:Nat} {g:Gh} {tm:Nat→Int} (hC:zJ_ n g tm) (hEL:∀U,g.el U→Has (g.E U) (g.LL U) (g.E U).length) {P P':List En} {c:Nat} {B W:Int} (hP:zp_ n g P c B) (hBW:B≤W) (hel:g.el W) (hz:∀z,Has P (g.LL W) z→Has P' (g.LL W) z):zp_ n g P' c B:=by
 have h1:=hP.lead hC hEL hBW hel;rcases hP with rfl | ⟨T,x,d1,t1,c1,a1⟩
 ·exact .inl rfl
 ·exact .inr ⟨T,x,d1,t1,c1,(hz c h1).trans (h1.symm.trans a1)⟩
end Go.Proofs.YtapfhhmimkkhnaaGreat
namespace Go.Proofs.YtapfhhmimkkhnaaGreat
set_option linter.unusedVariables false
def yv_ (g:Gh) (P:List En) (B:Int):Prop:=Ok g.LL P∧Srt P∧∀i (h:i<P.length),P[i].t≤B∧g.el P[i].t
theorem yv_.mono {g:Gh} {P:List En} {B B':Int} (h:yv_ g P B) (hB:B≤B'):yv_ g P B':=⟨h.1,h.2.1,fun i hi=>⟨by have:=(h.2.2 i hi).1;omega,(h.2.2 i hi).2⟩⟩
theorem yv_.elect {g:Gh} {P Q:List En} {B W:Int} {k:Nat} (h:yv_ g P B) (hne:¬g.el W):yv_ (g.elect W k Q) P B:=by
 refine⟨fun i hi=> ?_,h.2.1,fun i hi=>⟨(h.2.2 i hi).1,.inr (h.2.2 i hi).2⟩⟩;have hn:¬P[i].t=W:=fun e=>hne (e ▸ (h.2.2 i hi).2);rw [g.elect_LL_ne k Q hn];exact h.1 i hi
def Gh.prop (g:Gh) (W:Int) (e:En):Gh:= { g with LL:=fun T=>if T=W then g.LL W++ [e] else g.LL T }
def Gh.tell (g:Gh) (j:Nat) (W:Int) (y:Nat):Gh:= { g with ack:=fun i' T=>if i'=j∧T=W then max (g.ack j W) y else g.ack i' T }
theorem yv_.prop {g:Gh} {P:List En} {B W:Int} (h:yv_ g P B) (e:En):yv_ (g.prop W e) P B:=by
 refine⟨fun i hi=> ?_,h.2.1,h.2.2⟩;have:=h.1 i hi;unfold Gh.prop;dsimp only;by_cases hc:P[i].t=W
 ·rw [if_pos hc,←hc];exact yG_ this _
 ·rw [if_neg hc];exact this
theorem yv_.tell {g:Gh} {P:List En} {B W:Int} {j y:Nat} (h:yv_ g P B):yv_ (g.tell j W y) P B:=h
theorem yv_.take {g:Gh} {P:List En} {B:Int} (h:yv_ g P B) (y:Nat) (hy:y≤P.length):yv_ g (P.take y) B:=by
 have hl:∀i,i<(P.take y).length→i<y∧i<P.length:=fun i hi=>by simp at hi;omega
 refine⟨fun i hi=> ?_,fun i j hi hj hij=> ?_,fun i hi=> ?_⟩
 ·have:=hl i hi;have e:(P.take y)[i]=P[i]'this.2:=by simp
  rw [e];exact (th_ P (i+1) y (by omega) hy).trans (h.1 i this.2)
 ·have:=hl i hi;have:=hl j hj;simpa using h.2.1 i j (by omega) (by omega) hij
 ·have:=hl i hi;simpa using h.2.2 i this.2
theorem yv_.snoc {g:Gh} {W:Int} {e:En} (h:yv_ g (g.LL W) W) (hel:g.el W) (he:e.t=W):yv_ (g.prop W e) (g.LL W++ [e]) W:=by
 have h':=yv_.prop (W:=W) h e;have key:∀i (hi:i<(g.LL W++ [e]).length),(∃h2:i<(g.LL W).length,(g.LL W++ [e])[i]=(g.LL W)[i])∨(i=(g.LL W).length∧(g.LL W++ [e])[i]=e):=fun i hi=>by
  by_cases h2:i<(g.LL W).length
  ·exact .inl ⟨h2,List.getElem_append_left h2⟩
  ·have:i=(g.LL W).length:=by simp at hi;omega
   subst this;exact .inr ⟨rfl,by simp⟩
 refine⟨fun i hi=> ?_,fun i j hi hj hij=> ?_,fun i hi=> ?_⟩
 ·rcases key i hi with⟨h2,e2⟩ | ⟨h2,e2⟩
  ·rw [e2];exact (yG_ (h'.1 i h2).symm _).symm
  ·rw [e2,he];unfold Gh.prop;dsimp only;rw [if_pos rfl];exact Has.refl _ _ (by omega)
 ·rcases key i hi with⟨h2,e2⟩ | ⟨h2,e2⟩
  ·rcases key j hj with⟨h3,e3⟩ | ⟨h3,e3⟩
   ·rw [e2,e3];exact h.2.1 i j h2 h3 hij
   ·rw [e2,e3,he];exact (h.2.2 i h2).1
  ·rcases key j hj with⟨h3,e3⟩ | ⟨h3,e3⟩
   ·omega
   ·rw [e2,e3];exact Int.le_refl _
 ·rcases key i hi with⟨h2,e2⟩ | ⟨h2,e2⟩
  ·rw [e2];exact h.2.2 i h2
  ·rw [e2,he];exact⟨Int.le_refl _,hel⟩
theorem Kept.grown {g:Gh} {P:List En} {j:Nat} {B:Int} (h:Kept g P j B) (r:List En):Kept g (P++r) j B:=by
 intro T x hT hx hxT hak;rcases h T x hT hx hxT hak with h1 | h1
 ·exact .inl (yG_ h1.symm r).symm
 ·exact .inr h1
structure Sys where
 tm:Nat→Int
 lg:Nat→List En
 g:Gh
 wh:Int→Nat
 V:Nat→Int→Option Nat
 S:Nat→Int→List En
 C:Int→Nat→Option (List En)
structure AInv (n:Nat) (s:Sys):Prop where
 vt:∀j T k,s.V j T=some k→T≤s.tm j∧yv_ s.g (s.S j T) T∧(∃P,s.C T k=some P∧UpTo P (s.S j T))∧(¬s.g.el T→Kept s.g (s.S j T) j T)
 cd:∀T k P,s.C T k=some P→yv_ s.g P (T-1)∧T≤s.tm k
 lo:∀j,yv_ s.g (s.lg j) (s.tm j)∧Kept s.g (s.lg j) j (s.tm j+1)
 ld:∀T,s.g.el T→0<T∧T≤s.tm (s.wh T)∧(Maj n fun j=>s.V j T=some (s.wh T))∧s.C T (s.wh T)=some (s.g.E T)∧Has (s.g.E T) (s.g.LL T) (s.g.E T).length∧yv_ s.g (s.g.LL T) T
 no:∀T,¬s.g.el T→s.g.LL T= []∧∀j,s.g.ack j T=0
 ac:∀j T,s.g.ack j T≤(s.g.LL T).length∧(s.tm j<T→s.g.ack j T=0)
 cm:zJ_ n s.g s.tm
theorem AInv.votes {n:Nat} {s:Sys} (h:AInv n s) (U:Int) (hel:s.g.el U):Maj n fun j=>U≤s.tm j:=(h.ld U hel).2.2.1.mono fun j _ hj=>(h.vt j U _ hj).1
theorem AInv.one {n:Nat} {s:Sys} (h:AInv n s) {T:Int} {k:Nat} (hel:s.g.el T) (hm:Maj n fun j=>s.V j T=some k):k=s.wh T:=by
 obtain⟨j,_,h1,h2⟩:=hm.meet (h.ld T hel).2.2.1;rw [h1] at h2;exact Option.some.inj h2
def Sys.term (s:Sys) (j:Nat) (T:Int):Sys:= { s with tm:=fun i=>if i=j then T else s.tm i }
theorem AInv.term {n:Nat} {s:Sys} (h:AInv n s) (j:Nat) (T:Int) (hT:s.tm j≤T):AInv n (s.term j T):=by
 have ht:∀i,s.tm i≤(s.term j T).tm i:=fun i=>by
  unfold Sys.term;dsimp only;split
  ·rename_i e;subst e;exact hT
  ·exact Int.le_refl _
 refine⟨fun i U k e=> ?_,fun U k P e=> ?_,fun i=> ?_,fun U e=> ?_,h.no,fun i U=>⟨(h.ac i U).1,fun hl=>(h.ac i U).2 (by have:=ht i;omega)⟩,h.cm.later ht⟩
 ·obtain⟨a,b⟩:=h.vt i U k e;exact⟨by have:=ht i;omega,b⟩
 ·obtain⟨a,b⟩:=h.cd U k P e;exact⟨a,by have:=ht k;omega⟩
 ·obtain⟨a,b⟩:=h.lo i;exact⟨a.mono (ht i),b.later (by have:=ht i;omega) fun U hU=>(h.ac i U).2 (by omega)⟩
 ·obtain⟨a,b,c⟩:=h.ld U e;exact⟨a,by have:=ht (s.wh U);show U≤(s.term j T).tm (s.wh U);omega,c⟩
def Sys.ask (s:Sys) (k:Nat):Sys:= { s with C:=fun T i=>if T=s.tm k∧i=k then some (s.lg k) else s.C T i }
theorem AInv.ask {n:Nat} {s:Sys} (h:AInv n s) (k:Nat) (hn:s.C (s.tm k) k=none) (hl:yv_ s.g (s.lg k) (s.tm k-1)):AInv n (s.ask k):=by
 have hC:∀T i P,s.C T i=some P→(s.ask k).C T i=some P:=fun T i P e=>by
  unfold Sys.ask;dsimp only;rw [if_neg];exact e;rintro⟨rfl,rfl⟩;rw [hn] at e;cases e
 refine⟨fun j T i e=> ?_,fun T i P e=> ?_,h.lo,fun T e=> ?_,h.no,h.ac,h.cm⟩
 ·obtain⟨a,b,⟨P,c1,c2⟩,d⟩:=h.vt j T i e;exact⟨a,b,⟨P,hC T i P c1,c2⟩,d⟩
 ·unfold Sys.ask at e;dsimp only at e
  split at e
  ·rename_i hc
   obtain⟨rfl,rfl⟩:=hc
   cases e
   exact⟨hl,Int.le_refl _⟩
  ·exact h.cd T i P e
 ·obtain⟨a,b,c,d,f⟩:=h.ld T e;exact⟨a,b,c,hC _ _ _ d,f⟩
def Sys.vote (s:Sys) (j k:Nat):Sys:= { s with V:=fun i T=>if i=j∧T=s.tm j then some k else s.V i T,S:=fun i T=>if i=j∧T=s.tm j then s.lg j else s.S i T }
theorem AInv.vote {n:Nat} {s:Sys} (h:AInv n s) (j k:Nat) (P:List En) (hn:s.V j (s.tm j)=none) (hC:s.C (s.tm j) k=some P) (hU:UpTo P (s.lg j)):AInv n (s.vote j k):=by
 refine⟨fun i T k' e=> ?_,h.cd,h.lo,fun T e=> ?_,h.no,h.ac,h.cm⟩
 ·unfold Sys.vote at e ⊢;dsimp only at e ⊢;by_cases hc:i=j∧T=s.tm j
  ·rw [if_pos hc] at e ⊢;obtain⟨rfl,rfl⟩:=hc
   cases e
   obtain⟨a,b⟩:=h.lo i;refine⟨Int.le_refl _,a,⟨P,hC,hU⟩,fun hel=> ?_⟩;intro T x hT hx hxT hak;rcases b T x (by omega) hx hxT hak with h1 | ⟨U,u1,u2,u3,u4⟩
   ·exact .inl h1
   ·have:¬U=s.tm i:=fun e=>hel (e ▸ u3);exact .inr ⟨U,u1,by omega,u3,u4⟩
  ·rw [if_neg hc] at e ⊢;exact h.vt i T k' e
 ·obtain⟨a,b,c,d⟩:=h.ld T e;refine⟨a,b,c.mono fun i _ hi=> ?_,d⟩;unfold Sys.vote;dsimp only;rw [if_neg];exact hi;rintro⟨rfl,rfl⟩;rw [hn] at hi;cases hi
noncomputable def Sys.lead (s:Sys) (k:Nat):Sys:= { s with g:=s.g.elect (s.tm k) k (s.lg k),wh:=fun T=>if T=s.tm k then k else s.wh T }
theorem AInv.lead {n:Nat} {s:Sys} (h:AInv n s) (k:Nat) (hne:¬s.g.el (s.tm k)) (hC:s.C (s.tm k) k=some (s.lg k)) (hm:Maj n fun j=>s.V j (s.tm k)=some k) (hp:0<s.tm k):AInv n (s.lead k):=by
 obtain⟨hP,_⟩:=h.cd _ _ _ hC;have hPW:∀i (h:i<(s.lg k).length),(s.lg k)[i].t<s.tm k:=fun i hi=>by have:=(hP.2.2 i hi).1;omega
 have hEL:∀U,s.g.el U→Has (s.g.E U) (s.g.LL U) (s.g.E U).length:=fun U hU=>(h.ld U hU).2.2.2.2.1;have hlm:∀T x,x<(s.g.LL T).length→s.g.el T:=fun T x hx=>by
  apply Classical.byContradiction;intro hc;rw [(h.no T hc).1] at hx;simp at hx
 have hcm:zJ_ n (s.g.elect (s.tm k) k (s.lg k)) s.tm:=by
  refine h.cm.elect hPW (rA_ (s.tm k) (s.lg k) (fun j=>s.S j (s.tm k)) (fun j=>s.V j (s.tm k)=some k) h.cm hP.1 hP.2.1 hPW (fun i hi=>(hP.2.2 i hi).2) hEL (fun U=> ?_) (fun T x hx _=>(h.ld T (hlm T x hx)).1) hm fun j _ hv=> ?_)
  ·by_cases hU:s.g.el U
   ·exact (h.ld U hU).2.2.2.2.2.2.1
   ·rw [(h.no U hU).1];intro i j hi;simp at hi
  ·obtain⟨a,b,⟨P,c1,c2⟩,d⟩:=h.vt j _ _ hv;rw [hC] at c1
   cases c1
   exact⟨a,b.1,b.2.1,c2,d hne⟩
 refine⟨fun j T i e=> ?_,fun T i P e=> ?_,fun j=> ?_,fun T e=> ?_,fun T e=> ?_,fun j T=> ?_,hcm⟩
 ·obtain⟨a,b,c,d⟩:=h.vt j T i e;exact⟨a,b.elect hne,c,fun he=>(d fun hh=>he (.inr hh)).elect hPW hne⟩
 ·obtain⟨a,b⟩:=h.cd T i P e;exact⟨a.elect hne,b⟩
 ·obtain⟨a,b⟩:=h.lo j;exact⟨a.elect hne,b.elect hPW hne⟩
 ·by_cases hT:T=s.tm k
  ·subst hT;unfold Sys.lead;dsimp only;rw [if_pos rfl,s.g.elect_E,s.g.elect_LL];exact⟨hp,Int.le_refl _,hm,hC,Has.refl _ _ (Nat.le_refl _),(hP.elect hne).mono (by omega)⟩
  ·have e':s.g.el T:=by
    rcases e with e | e
    ·exact absurd e hT
    ·exact e
   obtain⟨a,b,c,d,f,q⟩:=h.ld T e';unfold Sys.lead;dsimp only;rw [if_neg hT,s.g.elect_E_ne k _ hT,s.g.elect_LL_ne k _ hT];exact⟨a,b,c,d,f,q.elect hne⟩
 ·have hT:¬T=s.tm k:=fun hh=>e (.inl hh);obtain⟨a,b⟩:=h.no T fun hh=>e (.inr hh);unfold Sys.lead;dsimp only;exact⟨by rw [s.g.elect_LL_ne k _ hT];exact a,fun j=>by rw [s.g.elect_ack k j _ hT];exact b j⟩
 ·unfold Sys.lead;dsimp only;by_cases hT:T=s.tm k
  ·subst hT;rw [s.g.elect_LL];by_cases hj:j=k
   ·subst hj;exact⟨by simp [Gh.elect],fun hh=>by omega⟩
   ·have e0:(s.g.elect (s.tm k) k (s.lg k)).ack j (s.tm k)=0:=by simp [Gh.elect,hj];exact (h.no _ hne).2 j
    rw [e0];exact⟨Nat.zero_le _,fun _=>rfl⟩
  ·rw [s.g.elect_LL_ne k _ hT,s.g.elect_ack k j _ hT];exact h.ac j T
def Sys.accept (s:Sys) (j:Nat) (P':List En) (y:Nat):Sys:= { s with g:=s.g.tell j (s.tm j) y,lg:=fun i=>if i=j then P' else s.lg i }
theorem AInv.accept {n:Nat} {s:Sys} (h:AInv n s) (j:Nat) (P':List En) (y:Nat) (hel:s.g.el (s.tm j)) (hz:∀z,Has (s.lg j) (s.g.LL (s.tm j)) z→Has P' (s.g.LL (s.tm j)) z) (hy:Has P' (s.g.LL (s.tm j)) y) (hP:P'=s.lg j∨P'=(s.g.LL (s.tm j)).take y):AInv n (s.accept j P' y):=by
 obtain⟨_,_,_,_,hEL,hLO⟩:=h.ld _ hel;refine⟨fun i T k e=> ?_,h.cd,fun i=> ?_,h.ld,fun T e=> ?_,fun i T=> ?_,h.cm.told y rfl⟩
 ·obtain⟨a,b,c,d⟩:=h.vt i T k e;refine⟨a,b,c,fun he=>(d he).toldOther y ?_⟩;by_cases hij:j=i
  ·subst hij;exact .inr a
  ·exact .inl hij
 ·unfold Sys.accept;dsimp only;obtain⟨a,b⟩:=h.lo i;by_cases hi:i=j
  ·subst hi;rw [if_pos rfl];refine⟨?_,(b.accept hel hEL hz).told y hy 0⟩;rcases hP with rfl | rfl
   ·exact a
   ·exact hLO.take y hy.2.1
  ·rw [if_neg hi];exact⟨a,b.toldOther y (.inl fun e=>hi e.symm)⟩
 ·obtain⟨a,b⟩:=h.no T e;refine⟨a,fun i=> ?_⟩;unfold Sys.accept Gh.tell;dsimp only;rw [if_neg];exact b i;rintro⟨_,rfl⟩;exact e hel
 ·unfold Sys.accept Gh.tell;dsimp only;obtain⟨a,b⟩:=h.ac i T;by_cases hc:i=j∧T=s.tm j
  ·rw [if_pos hc];obtain⟨rfl,rfl⟩:=hc;exact⟨by have:=hy.2.1;omega,fun hh=>by omega⟩
  ·rw [if_neg hc];exact⟨a,b⟩
def Sys.propose (s:Sys) (k:Nat) (e:En):Sys:= { s with g:=(s.g.prop (s.tm k) e).tell k (s.tm k) ((s.g.LL (s.tm k)).length+1),lg:=fun i=>if i=k then s.g.LL (s.tm k)++ [e] else s.lg i }
theorem vv_ (g:Gh) (W:Int) (e:En):(g.prop W e).LL W=g.LL W++ [e]:=by simp [Gh.prop]
theorem yX_ (g:Gh) {W T:Int} (e:En) (h:¬T=W):(g.prop W e).LL T=g.LL T:=by simp [Gh.prop,h]
theorem AInv.propose {n:Nat} {s:Sys} (h:AInv n s) (k:Nat) (e:En) (hel:s.g.el (s.tm k)) (hlg:s.lg k=s.g.LL (s.tm k)) (he:e.t=s.tm k):AInv n (s.propose k e):=by
 have hak:∀i T,s.g.ack i T≤(s.g.LL T).length:=fun i T=>(h.ac i T).1;have hcm:zJ_ n ((s.g.prop (s.tm k) e).tell k (s.tm k) ((s.g.LL (s.tm k)).length+1)) s.tm:=(h.cm.propose (W:=s.tm k) e hak h.votes).told (g:=s.g.prop (s.tm k) e) _ rfl;refine⟨fun i T k' e1=> ?_,fun T i P e1=> ?_,fun i=> ?_,fun T e1=> ?_,fun T e1=> ?_,fun i T=> ?_,hcm⟩
 ·obtain⟨a,b,c,d⟩:=h.vt i T k' e1;refine⟨a,b.prop e,c,fun hh=>(Kept.propose (W:=s.tm k) (d hh) e hak).toldOther (g:=s.g.prop (s.tm k) e) _ ?_⟩;by_cases hij:k=i
  ·subst hij;exact .inr a
  ·exact .inl hij
 ·obtain⟨a,b⟩:=h.cd T i P e1;exact⟨a.prop e,b⟩
 ·unfold Sys.propose;dsimp only;obtain⟨a,b⟩:=h.lo i;have b1:=Kept.propose (W:=s.tm k) b e hak;by_cases hi:i=k
  ·subst hi;rw [if_pos rfl];refine⟨yv_.snoc (h.ld _ hel).2.2.2.2.2 hel he,?_⟩;rw [hlg] at b1;refine Kept.told (g:=s.g.prop (s.tm i) e) (Kept.grown b1 [e]) _ ?_ 0;rw [vv_];exact Has.refl _ _ (by simp)
  ·rw [if_neg hi];exact⟨a.prop e,b1.toldOther (g:=s.g.prop (s.tm k) e) _ (.inl fun e=>hi e.symm)⟩
 ·obtain⟨a,b,c,d,f,q⟩:=h.ld T e1;refine⟨a,b,c,d,?_,?_⟩
  ·show Has (s.g.E T) ((s.g.prop (s.tm k) e).LL T) (s.g.E T).length;by_cases hT:T=s.tm k
   ·subst hT;rw [vv_];exact yG_ f _
   ·rw [yX_ _ _ hT];exact f
  ·show yv_ (s.g.prop (s.tm k) e) ((s.g.prop (s.tm k) e).LL T) T;by_cases hT:T=s.tm k
   ·subst hT;rw [vv_];exact yv_.snoc q hel he
   ·rw [yX_ _ _ hT];exact q.prop e
 ·have hT:¬T=s.tm k:=fun hh=>e1 (hh ▸ hel);obtain⟨a,b⟩:=h.no T e1;refine⟨?_,fun i=> ?_⟩
  ·show (s.g.prop (s.tm k) e).LL T= [];rw [yX_ _ _ hT];exact a
  ·unfold Sys.propose Gh.tell;dsimp only;rw [if_neg fun hh=>hT hh.2];exact b i
 ·obtain⟨a,b⟩:=h.ac i T;show ((s.g.prop (s.tm k) e).tell k (s.tm k) ((s.g.LL (s.tm k)).length+1)).ack i T≤((s.g.prop (s.tm k) e).LL T).length∧(s.tm i<T→((s.g.prop (s.tm k) e).tell k (s.tm k) ((s.g.LL (s.tm k)).length+1)).ack i T=0);have hb:(s.g.LL T).length≤((s.g.prop (s.tm k) e).LL T).length:=by
   by_cases hT:T=s.tm k
   ·subst hT;rw [vv_];simp
   ·rw [yX_ _ _ hT];exact Nat.le_refl _
  unfold Gh.tell;dsimp only;by_cases hc:i=k∧T=s.tm k
  ·rw [if_pos hc];obtain⟨rfl,rfl⟩:=hc;rw [vv_];exact⟨by simp [Gh.prop];omega,fun hh=>by omega⟩
  ·rw [if_neg hc];exact⟨Nat.le_trans a hb,b⟩
structure Grows (g g':Gh):Prop where
 el:∀T,g.el T→g'.el T
 ll:∀T,g.el T→Has (g.LL T) (g'.LL T) (g.LL T).length
 ack:∀j T,g.el T→g.ack j T≤g'.ack j T
theorem Grows.elect {g:Gh} {W:Int} (k:Nat) (P:List En) (hne:¬g.el W):Grows g (g.elect W k P):=by
 have hn:∀T,g.el T→¬T=W:=fun T h e=>hne (by rw [←e];exact h);refine⟨fun T h=> .inr h,fun T h=> ?_,fun j T h=> ?_⟩
 ·rw [g.elect_LL_ne k P (hn T h)];exact Has.refl _ _ (Nat.le_refl _)
 ·rw [g.elect_ack k j P (hn T h)];exact Nat.le_refl _
theorem Grows.tell (g:Gh) (j:Nat) (W:Int) (y:Nat):Grows g (g.tell j W y):=by
 refine⟨fun T h=>h,fun T h=>Has.refl _ _ (Nat.le_refl _),fun i T h=> ?_⟩;unfold Gh.tell;dsimp only
 split
 ·rename_i hc;rw [hc.1,hc.2];omega
 ·exact Nat.le_refl _
theorem Grows.prop (g:Gh) (W:Int) (e:En):Grows g (g.prop W e):=by
 refine⟨fun T h=>h,fun T h=> ?_,fun i T h=>Nat.le_refl _⟩;by_cases hT:T=W
 ·subst hT;rw [vv_];exact yG_ (Has.refl _ _ (Nat.le_refl _)) _
 ·rw [yX_ _ _ hT];exact Has.refl _ _ (Nat.le_refl _)
theorem Grows.trans {a b c:Gh} (h:Grows a b) (k:Grows b c):Grows a c:=⟨fun T x=>k.el T (h.el T x),fun T x=>(h.ll T x).trans ((k.ll T (h.el T x)).mono (h.ll T x).2.1),fun j T x=>Nat.le_trans (h.ack j T x) (k.ack j T (h.el T x))⟩
theorem xw_.grows {n:Nat} {g g':Gh} {T:Int} {x:Nat} (h:xw_ n g T x) (hg:Grows g g'):xw_ n g' T x:=by
 obtain⟨hx,hxT,hel,hm⟩:=h;have hl:=hg.ll T hel;refine⟨Nat.lt_of_lt_of_le hx hl.2.1,?_,hg.el T hel,hm.mono fun j _ hj=>Nat.lt_of_lt_of_le hj (hg.ack j T hel)⟩;rw [←hl.at hx];exact hxT
theorem zp_.grows {n:Nat} {g g':Gh} {P:List En} {c:Nat} {B:Int} (h:zp_ n g P c B) (hg:Grows g g'):zp_ n g' P c B:=by
 rcases h with h | ⟨T,x,d,t,c1,a⟩
 ·exact .inl h
 ·exact .inr ⟨T,x,d.grows hg,t,c1,a.trans ((hg.ll T d.2.2.1).mono a.2.1)⟩
theorem zp_.later {n:Nat} {g:Gh} {P:List En} {c:Nat} {B B':Int} (h:zp_ n g P c B) (hB:B≤B'):zp_ n g P c B':=by
 rcases h with h | ⟨T,x,d,t,c1,a⟩
 ·exact .inl h
 ·exact .inr ⟨T,x,d,by omega,c1,a⟩
theorem zp_.of {n:Nat} {g:Gh} {P Q:List En} {c c':Nat} {B:Int} (h:zp_ n g Q c B) (hc:c'≤c) (hP:Has P Q c'):zp_ n g P c' B:=by
 rcases h with h | ⟨T,x,d,t,c1,a⟩
 ·exact .inl (by omega)
 ·exact .inr ⟨T,x,d,t,by omega,hP.trans (a.mono hc)⟩
theorem zp_.decide {n:Nat} {g:Gh} {W:Int} {x:Nat} (hel:g.el W) (hx:x<(g.LL W).length) (hxT:(g.LL W)[x].t=W) (hm:Maj n fun j=>x<g.ack j W):zp_ n g (g.LL W) (x+1) W:=
 .inr ⟨W,x,⟨hx,hxT,hel,hm⟩,Int.le_refl _,Nat.le_refl _,Has.refl _ _ (by omega)⟩
end Go.Proofs.YtapfhhmimkkhnaaGreat
namespace Go.Proofs.YtapfhhmimkkhnaaGreat
open Go.RowKit Go.Deep
set_option linter.unusedVariables false
set_option maxRecDepth 100000
theorem zh_ {w:World} {base:Nat} {e:TypeId} {size:Nat} {v:Value} {n:Nat} {xs:List Value} (h:w.ownsRow base e size v n xs):∀b,v.ownBlock=some b→b<w.heap.size:=by
 intro b hb;rcases h.2 with⟨rfl,_⟩ | ⟨g,cap,cur,rfl,_,hh,_⟩
 ·simp [Value.ownBlock] at hb
 ·simp only [Value.ownBlock,Option.some.injEq] at hb;subst hb;exact (Array.getElem?_eq_some_iff.1 hh).1
theorem ze_ {w:World} {base:Nat} {e:TypeId} {size:Nat} {v:Value} {n:Nat} {xs:List Value} (h:w.ownsRow base e size v n xs):∃a c,v= .slice a n c:=by
 rcases h.2 with⟨rfl,h0⟩ | ⟨g,cap,cur,rfl,_⟩
 ·exact⟨none,0,by rw [h0]⟩
 ·exact⟨_,_,rfl⟩
theorem Tryz.info3:(Tryz.prog.info? 3).map (fun i=>(i.zero,i.size,i.bytes))=some (some (.int .i64 0),1,8):=by kernel_rfl
end Go.Proofs.YtapfhhmimkkhnaaGreat
namespace Go.Proofs.YtapfhhmimkkhnaaGreat
open Go.RowKit
set_option linter.unusedVariables false
set_option maxRecDepth 100000
def mkE (k:Int):En:=⟨k,mkT (k+1)⟩
def mkEs (k:Int) (n:Nat):List En:=(List.range n).map fun j:Nat=>mkE (k+2*(j:Int))
theorem zn_ {w:World} {b1 b2:Nat} {e1 e2:TypeId} {s1 s2:Nat} {v1 v2:Value} {n1 n2:Nat} {x1 x2:List Value} (h1:w.ownsRow b1 e1 s1 v1 n1 x1) (h2:w.ownsRow b2 e2 s2 v2 n2 x2) (hne:e1≠e2):∀g,v1.ownBlock=some g→v2.ownBlock≠some g:=by
 intro g hg hg2;rcases h1.2 with⟨rfl,_⟩ | ⟨g1,c1,cur1,rfl,_,hh1,_⟩
 ·simp [Value.ownBlock] at hg
 ·rcases h2.2 with⟨rfl,_⟩ | ⟨g2,c2,cur2,rfl,_,hh2,_⟩
  ·simp [Value.ownBlock] at hg2
  ·simp only [Value.ownBlock,Option.some.injEq] at hg hg2;subst hg hg2;rw [hh1] at hh2;simp only [Option.some.injEq,Obj.cells.injEq] at hh2;exact hne hh2.2.1
theorem zf_ {w:World} {base base':Nat} {e:TypeId} {size:Nat} {v:Value} {n:Nat} {xs:List Value} (h:w.ownsRow base e size v n xs) (hb:base'≤base):w.ownsRow base' e size v n xs:=by
 refine⟨h.1,?_⟩;rcases h.2 with h0 | ⟨g,cap,cur,hv,hbg,r⟩
 ·exact .inl h0
 ·exact .inr ⟨g,cap,cur,hv,Nat.le_trans hb hbg,r⟩
def isP (i n:Int):Bool:=decide (0≤i)&&decide (i<n)
def inB (n lo hi:Int):Bool:=decide (lo≤n)&&decide (n≤hi)
def yn_ (e:En):Bool:=decide (1≤e.t)&&decide (e.t≤1000000)&&decide ((e.d.size:Int)≤100)
def gE (T:Int):Int→List En→Bool
 | _,[]=>true
 | a,e::r=>yn_ e&&decide (a≤e.t)&&decide (e.t≤T)&&gE T e.t r
theorem pq_ (T a:Int) (l:List En) (k:Nat) (h:k<l.length):gE T a (l.drop k)=(yn_ l[k]&&decide (a≤l[k].t)&&decide (l[k].t≤T)&&gE T l[k].t (l.drop (k+1))):=by
 rw [List.drop_eq_getElem_cons h];rfl
theorem gE_one (T:Int) (l:List En):gE T 1 l=gE T 0 l:=by
 cases l with
 | nil=>rfl
 | cons e r=>
  simp only [gE]
  congr 2
  unfold yn_;by_cases h:1≤e.t
  ·have h0:(0:Int)≤e.t:=by omega
   simp [h,h0]
  ·simp [h]
def vAt (pe:Int) (l:List Int) (k:Nat):Bool:=isP (l.getD k 0) pe&&(k==0 || decide (l.getD (k-1) 0<l.getD k 0))
def vTo (pe:Int) (l:List Int):Nat→Bool
 | 0=>true
 | k+1=>vTo pe l k&&vAt pe l k
def gV (pe:Int) (l:List Int):Bool:=vTo pe l l.length
theorem vX_ (pe:Int) (l:List Int) (k n:Nat) (h:k<n) (hk:vAt pe l k=false):vTo pe l n=false:=by
 induction n with
 | zero=>omega
 | succ n ih=>
  simp only [vTo];by_cases e:k=n
  ·subst e;rw [hk];simp
  ·rw [ih (by omega)];rfl
theorem yh_ (l:List Int) (k:Nat) (h:k<l.length):l.getD k 0=l[k]:=by simp [h]
def gM (n:Int) (l:List Int):Bool:=l.all fun m=>decide (0≤m)&&decide (m≤n)
theorem po_ (n:Int) (l:List Int) (k:Nat) (h:k<l.length):gM n (l.drop k)=((decide (0≤l[k])&&decide (l[k]≤n))&&gM n (l.drop (k+1))):=by
 unfold gM;rw [List.drop_eq_getElem_cons h];rfl
def hsI (l:List Int) (x:Int):Bool:=l.any fun m=>m==x
theorem rM_ (l:List Int) (x:Int) (k:Nat) (h:k<l.length):hsI (l.drop k) x=(l[k]==x || hsI (l.drop (k+1)) x):=by
 unfold hsI;rw [List.drop_eq_getElem_cons h];rfl
def xS_ (pe id:Int) (vs:List Int):Bool:=gV pe vs&&(hsI vs id&& !decide (pe<2*(vs.length:Int)))
def yw_ (pe id n:Int) (mt:List Int):Bool:=decide ((mt.length:Int)=pe)&&(gM n mt&&decide (mt.getD id.toNat 0=n))
def ownT (id te vo:Int):Bool:=decide (vo=id)&&decide (1≤te)
def zH_ (id pe te vo ro n:Int) (vs mt:List Int):Bool:=
 (decide (ro=0)&&(decide ((vs.length:Int)=0)&&decide ((mt.length:Int)=0))) ||
 ((decide (ro=1)&&(ownT id te vo&&xS_ pe id vs&&decide ((mt.length:Int)=0))) ||
 (decide (ro=2)&&(ownT id te vo&&decide ((vs.length:Int)=0)&&yw_ pe id n mt)))
def zm_ (id pe te vo co ro:Int) (log:List En) (vs mt:List Int):Bool:=
 decide (1≤pe)&&decide (pe≤7)&&isP id pe&&decide (0≤te)&&decide (te≤1000)&&(decide (vo= -1) || isP vo pe)&&decide ((log.length:Int)≤60)&&gE te 0 log&&decide (0≤co)&&decide (co≤(log.length:Int))&&zH_ id pe te vo ro log.length vs mt
theorem yA_ (i n:Int) (w:World):Calls Tryz.prog 120 #[i,n] w fun e w'=>e= .returned (.bool (isP i n))∧w'=w:=by
 unfold isP;by_cases h:0≤i
 ·by_cases h1:i<n
  ·go_enter Tryz.func120,Tryz.ntmps120;go_wp2;go_ret;exact⟨by simp <;>omega,rfl⟩
  ·go_enter Tryz.func120,Tryz.ntmps120;go_wp2;go_ret;exact⟨by simp <;>omega,rfl⟩
 ·go_enter Tryz.func120,Tryz.ntmps120;go_wp2;go_ret;exact⟨by simp <;>omega,rfl⟩
theorem zu_ (n lo hi:Int) (w:World):Calls Tryz.prog 42 #[n,lo,hi] w fun e w'=>e= .returned (.bool (inB n lo hi))∧w'=w:=by
 unfold inB;by_cases h:lo≤n
 ·by_cases h1:n≤hi
  ·go_enter Tryz.func42,Tryz.ntmps42;go_wp2;go_ret;exact⟨by simp <;>omega,rfl⟩
  ·go_enter Tryz.func42,Tryz.ntmps42;go_wp2;go_ret;exact⟨by simp <;>omega,rfl⟩
 ·go_enter Tryz.func42,Tryz.ntmps42;go_wp2;go_ret;exact⟨by simp <;>omega,rfl⟩
theorem yF_ (n:Int) (w:World):Calls Tryz.prog 39 #[n] w fun e w'=>e= .returned (.bool (inB n 1 7))∧w'=w:=by
 go_enter Tryz.func39,Tryz.ntmps39;go_wp2_with fail;refine (zu_ _ _ _ _).mono ?_;rintro e w1 ⟨rfl,rfl⟩;go_wp2;go_ret;exact⟨rfl,rfl⟩
theorem tk_ (t:Int) (d:ByteArray) (w:World) (hd:d.size≤1048576):Calls Tryz.prog 148 #[.agg #[t,d]] w fun e w'=>e= .returned (.bool (yn_ ⟨t,d⟩))∧Below w.heap.size w w':=by
 unfold yn_;dsimp only;by_cases h:1≤t
 ·by_cases h1:t≤1000000
  ·by_cases h2:(d.size:Int)≤100
   ·go_enter Tryz.func148,Tryz.ntmps148;go_wp2;go_ret;exact⟨by simp <;>omega,zb_ _ _⟩
   ·go_enter Tryz.func148,Tryz.ntmps148;go_wp2;go_ret;exact⟨by simp <;>omega,zb_ _ _⟩
  ·go_enter Tryz.func148,Tryz.ntmps148;go_wp2;go_ret;exact⟨by simp <;>omega,zb_ _ _⟩
 ·go_enter Tryz.func148,Tryz.ntmps148;go_wp2;go_ret;exact⟨by simp <;>omega,zb_ _ _⟩
theorem rn_ (t:Int) (d:ByteArray) (w:World) (hd:d.size≤1048576):Calls Tryz.prog 125 #[.agg #[t,d]] w fun e w'=>e= .returned (.bool (yn_ ⟨t,d⟩))∧Below w.heap.size w w':=by
 have HE:Hid (yn_ ⟨t,d⟩=(inB t 1 1000000&&decide ((d.size:Int)≤100))):=rfl;have K:=fun w=>zu_ t 1 1000000 w;generalize yn_ ⟨t,d⟩=R at*;generalize inB t 1 1000000=b at*;by_cases h2:(d.size:Int)≤100
 all_goals
  go_enter Tryz.func125,Tryz.ntmps125;go_wp2_with fail;refine (K _).mono ?_;rintro e w1 ⟨rfl,rfl⟩
  cases b
  all_goals
   go_wp2;go_ret;exact⟨by rw [HE.out];simp <;>omega,zb_ _ _⟩
theorem yB_ (id pe te vo co ro many:Int) (vl vv vm:Value) (w:World) (h0:0≤many) (h1:many≤1048576):Calls Tryz.prog 167 #[.agg #[id,pe,te,vo,vl,co,ro,vv,vm],many] w fun e w'=>e= .returned (.bool (decide (pe<2*many)))∧Below w.heap.size w w':=by
 by_cases h:pe<2*many
 all_goals
  go_enter Tryz.func167,Tryz.ntmps167;go_wp2;go_ret;exact⟨by simp <;>omega,zb_ _ _⟩
theorem vl_ (id pe te vo co ro:Int) (vl vv vm:Value) (w:World):Calls Tryz.prog 149 #[.agg #[id,pe,te,vo,vl,co,ro,vv,vm]] w fun e w'=>e= .returned (.bool (ownT id te vo))∧Below w.heap.size w w':=by
 unfold ownT;by_cases h:vo=id
 ·by_cases h1:1≤te
  all_goals
   go_enter Tryz.func149,Tryz.ntmps149;go_wp2;go_ret;exact⟨by simp <;>omega,zb_ _ _⟩
 ·go_enter Tryz.func149,Tryz.ntmps149;go_wp2;go_ret;exact⟨by simp <;>omega,zb_ _ _⟩
set_option maxHeartbeats 2000000
theorem pc_ (v:Value) (zs:List Int) (x:Int) (w:World) (hv:IL w v zs) (hn:zs.length≤1048576):
  Calls Tryz.prog 176 #[v,x] w fun e w'=>∃r:Int,e= .returned (.int .i64 r)∧decide (0≤r)=hsI zs x∧w'=w:=by
 obtain⟨a,cap,rfl,hc⟩:=hv;go_enter Tryz.func176,Tryz.ntmps176;go_wp2
 go_loopw [8] (fun i wr=>∃k:Nat,k≤zs.length∧i= .int .i64 k∧hsI zs x=hsI (zs.drop k) x∧wr=w) (fun i _=>zs.length-(intOf i).toNat)
 case atStart=>exact⟨0,Nat.zero_le _,rfl,rfl,rfl⟩
 case round=>
  obtain⟨k,hk,rfl,hg,rfl⟩:=hrel;by_cases hlt:k<zs.length
  ·obtain⟨b,off,rfl,hbl,hcell⟩:=hc (by intro e;simp [e] at hlt);have hc0:=hcell k hlt;have HD:Hid (hsI zs x=(zs[k]==x || hsI (zs.drop (k+1)) x)):=by show _=_;rw [hg,rM_ zs x k hlt]
   clear hcell hc hg;generalize zs[k]=s at*;by_cases hx:x=s
   ·go_wp2;go_ret;exact⟨_,rfl,by rw [HD.out,hx];simp,rfl⟩
   ·have hx':¬s=x:=fun h=>hx h.symm;go_wp2;go_roundw
    case rel=>exact⟨k+1,by omega,by go_num,by rw [HD.out,beq_false_of_ne hx'];rfl,by first | rfl | trivial⟩
    case measure=>simp [intOf];omega
  ·obtain rfl:k=zs.length:=by omega
   have HD:Hid (hsI zs x=false):=by show _=_;rw [hg,List.drop_length];rfl
   clear hc hg;go_wp2;go_ret;exact⟨_,rfl,by rw [HD.out];rfl,rfl⟩
theorem tW_ (v:Value) (zs:List Int) (x:Int) (w:World) (hv:IL w v zs) (hn:zs.length≤1048576):
  Calls Tryz.prog 166 #[v,x] w fun e w'=>e= .returned (.bool (hsI zs x))∧w'=w:=by
 have K:=pc_ v zs x w hv hn;generalize hsI zs x=R at*;obtain⟨a,cap,rfl,hc⟩:=hv;go_enter Tryz.func166,Tryz.ntmps166;go_wp2_with fail;refine K.mono ?_;rintro e w1 ⟨r,rfl,hr,rfl⟩;clear K hc;by_cases h:0≤r
 ·have HR:Hid (R=true):=by show _=_;rw [←hr];simp [h]
  clear hr;go_wp2;go_ret;exact⟨by rw [HR.out];simp <;>omega,rfl⟩
 ·have HR:Hid (R=false):=by show _=_;rw [←hr];simp;omega
  clear hr;go_wp2;go_ret;exact⟨by rw [HR.out];simp <;>omega,rfl⟩
theorem uC_ (v:Value) (zs:List Int) (x:Int) (w:World) (hv:IL w v zs) (hn:zs.length≤1048576):
  Calls Tryz.prog 76 #[v,x] w fun e w'=>e= .returned (.bool (hsI zs x))∧w'=w:=by
 obtain⟨a,cap,rfl,hc⟩:=hv;go_enter Tryz.func76,Tryz.ntmps76;go_wp2
 go_loopw [9] (fun i wr=>∃k:Nat,k≤zs.length∧i= .int .i64 k∧hsI zs x=hsI (zs.drop k) x∧wr=w) (fun i _=>zs.length-(intOf i).toNat)
 case atStart=>exact⟨0,Nat.zero_le _,rfl,rfl,rfl⟩
 case round=>
  obtain⟨k,hk,rfl,hg,rfl⟩:=hrel;by_cases hlt:k<zs.length
  ·obtain⟨b,off,rfl,hbl,hcell⟩:=hc (by intro e;simp [e] at hlt);have hc0:=hcell k hlt;have HD:Hid (hsI zs x=(zs[k]==x || hsI (zs.drop (k+1)) x)):=by show _=_;rw [hg,rM_ zs x k hlt]
   clear hcell hc hg;generalize zs[k]=s at*;by_cases hx:s=x
   ·go_wp2;go_ret;exact⟨by rw [HD.out,hx];simp,rfl⟩
   ·go_wp2;go_roundw
    case rel=>exact⟨k+1,by omega,by go_num,by rw [HD.out,beq_false_of_ne hx];rfl,by first | rfl | trivial⟩
    case measure=>simp [intOf];omega
  ·obtain rfl:k=zs.length:=by omega
   have HD:Hid (hsI zs x=false):=by show _=_;rw [hg,List.drop_length];rfl
   clear hc hg;go_wp2;go_ret;exact⟨by rw [HD.out];try rfl,by first | rfl | trivial⟩
theorem Box.b2 {w:World} {b:Nat} {v0 v1:Value} (h:Box w b [v0,v1]):b<w.heap.size∧w.cell? ⟨b,0,none⟩=some v0∧w.cell? ⟨b,1,none⟩=some v1:=⟨h.1,h.2.1 0 _ rfl,h.2.1 1 _ rfl⟩
theorem xH_ (v:Value) (l:List En) (T:Int) (w:World) (hv:ER w v l) (hn:l.length≤1048576) (hs:∀i (h:i<l.length),l[i].d.size≤1048576):
  Calls Tryz.prog 121 #[v,T] w fun e w'=>e= .returned (.bool (gE T 0 l))∧Below w.heap.size w w':=by
 obtain⟨a,cap,rfl,hc⟩:=hv;go_enter Tryz.func121,Tryz.ntmps121;go_wp2
 go_loopw [5,10] (fun p i wr=>∃(k:Nat) (z:Int),k≤l.length∧i= .int .i64 k∧p= .int .i64 z∧gE T 0 l=gE T z (l.drop k)∧Below w.heap.size w wr) (fun _ i _=>l.length-(intOf i).toNat)
 case atStart=>exact⟨0,0,Nat.zero_le _,rfl,rfl,rfl,Below.refl _ _⟩
 case round=>
  obtain⟨k,z,hk,rfl,rfl,hg,hb⟩:=hrel;by_cases hlt:k<l.length
  ·obtain⟨b,off,rfl,hbl,hcell⟩:=hc (by intro e;simp [e] at hlt);have hc0:=(hb.cell (p:=⟨b,off+k*2,none⟩) hbl).trans (hcell k hlt).1;have hc1:=(hb.cell (p:=⟨b,off+k*2+1,none⟩) hbl).trans (hcell k hlt).2;have HD:Hid (gE T 0 l=(yn_ l[k]&&decide (z≤l[k].t)&&decide (l[k].t≤T)&&gE T l[k].t (l.drop (k+1)))):=by show _=_;rw [hg,pq_ T z l k hlt]
   have hsk:=hs k hlt;clear hcell hc hg hs;generalize l[k]=s at*;obtain⟨st,sd⟩:=s;dsimp only at hc0 hc1 HD hsk;have KE:=fun w=>tk_ st sd w hsk;have hz:=hb.size;have hB0:=hb.alloc hz (.cells #[st,sd] 44);have X0:=Box.new wr #[st,sd] 44;generalize yn_ ⟨st,sd⟩=ge at*;go_wp2_with fail;refine (KE _).mono ?_;rintro e w1 ⟨rfl,hb1⟩;have hB1:=hB0.trans (hb1.mono hB0.size);have X1:=X0.below hb1;obtain⟨hx0,x0,x1⟩:=X1.b2;clear KE hB0 X0 hb1 hb
   cases ge with
   | false=>
    go_wp2;go_ret;exact⟨by rw [HD.out];rfl,hB1⟩
   | true=>
    by_cases h1:st<z
    ·go_wp2;go_ret;exact⟨by rw [HD.out];simp <;>omega,hB1⟩
    ·by_cases h2:T<st
     ·go_wp2;go_ret;exact⟨by rw [HD.out];simp <;>omega,hB1⟩
     ·have HD2:Hid (gE T 0 l=gE T st (l.drop (k+1))):=by
       show _=_;rw [HD.out,decide_eq_true (show z≤st from by omega),decide_eq_true (show st≤T from by omega)];rfl
      clear HD;go_wp2;go_roundw
      case rel=>exact⟨k+1,st,by omega,by go_num,rfl,HD2.out,hB1⟩
      case measure=>simp [intOf];omega
  ·obtain rfl:k=l.length:=by omega
   have HD:Hid (gE T 0 l=true):=by show _=_;rw [hg,List.drop_length];rfl
   clear hc hg;go_wp2;go_ret;exact⟨by rw [HD.out];try rfl,hb⟩
theorem xQ_ (v:Value) (l:List En) (T:Int) (w:World) (hv:ER w v l) (hn:l.length≤1048576) (hs:∀i (h:i<l.length),l[i].d.size≤1048576):
  Calls Tryz.prog 75 #[v,(1:Int),T] w fun e w'=>e= .returned (.bool (gE T 0 l&&decide ((l.length:Int)≤60)))∧Below w.heap.size w w':=by
 rw [←gE_one];obtain⟨a,cap,rfl,hc⟩:=hv;go_enter Tryz.func75,Tryz.ntmps75;go_wp2
 go_loopw [1,11] (fun p i wr=>∃(k:Nat) (z:Int),k≤l.length∧i= .int .i64 k∧p= .int .i64 z∧gE T 1 l=gE T z (l.drop k)∧Below w.heap.size w wr) (fun _ i _=>l.length-(intOf i).toNat)
 case atStart=>exact⟨0,1,Nat.zero_le _,rfl,rfl,rfl,Below.refl _ _⟩
 case round=>
  obtain⟨k,z,hk,rfl,rfl,hg,hb⟩:=hrel;by_cases hlt:k<l.length
  ·obtain⟨b,off,rfl,hbl,hcell⟩:=hc (by intro e;simp [e] at hlt);have hc0:=(hb.cell (p:=⟨b,off+k*2,none⟩) hbl).trans (hcell k hlt).1;have hc1:=(hb.cell (p:=⟨b,off+k*2+1,none⟩) hbl).trans (hcell k hlt).2;have HD:Hid (gE T 1 l=(yn_ l[k]&&inB l[k].t z T&&gE T l[k].t (l.drop (k+1)))):=by show _=_;rw [hg,pq_ T z l k hlt];unfold inB;simp only [Bool.and_assoc]
   have hsk:=hs k hlt;clear hcell hc hg hs;generalize l[k]=s at*;obtain⟨st,sd⟩:=s;dsimp only at hc0 hc1 HD hsk;have KE:=fun w=>rn_ st sd w hsk;have KI:=fun w=>zu_ st z T w;have hz:=hb.size;have hB0:=hb.alloc hz (.cells #[st,sd] 44);have X0:=Box.new wr #[st,sd] 44;generalize yn_ ⟨st,sd⟩=ge at*;generalize inB st z T=gi at*;go_wp2_with fail;refine (KE _).mono ?_;rintro e w1 ⟨rfl,hb1⟩;have hB1:=hB0.trans (hb1.mono hB0.size);have X1:=X0.below hb1;obtain⟨hx0,x0,x1⟩:=X1.b2;clear KE hB0 X0 hb1 hb
   cases ge with
   | false=>
    go_wp2;go_ret;exact⟨by rw [HD.out];rfl,hB1⟩
   | true=>
    go_wp2_with fail;refine (KI _).mono ?_;rintro e w2 ⟨rfl,rfl⟩;clear KI
    cases gi with
    | false=>
     go_wp2;go_ret;exact⟨by rw [HD.out];rfl,hB1⟩
    | true=>
     go_wp2;go_roundw
     case rel=>exact⟨k+1,st,by omega,by go_num,rfl,HD.out,hB1⟩
     case measure=>simp [intOf];omega
  ·obtain rfl:k=l.length:=by omega
   have HD:Hid (gE T 1 l=true):=by show _=_;rw [hg,List.drop_length];rfl
   clear hc hg;go_wp2;go_ret;exact⟨by rw [HD.out];simp,hb⟩
set_option maxHeartbeats 4000000
theorem Box.e9 {w:World} {b:Nat} {v0 v1 v2 v3 v4 v5 v6 v7 v8:Value} (h:Box w b [v0,v1,v2,v3,v4,v5,v6,v7,v8]):b<w.heap.size∧w.cell? ⟨b,0,none⟩=some v0∧w.cell? ⟨b,1,none⟩=some v1∧w.cell? ⟨b,2,none⟩=some v2∧w.cell? ⟨b,3,none⟩=some v3∧w.cell? ⟨b,4,none⟩=some v4∧w.cell? ⟨b,5,none⟩=some v5∧w.cell? ⟨b,6,none⟩=some v6∧w.cell? ⟨b,7,none⟩=some v7∧w.cell? ⟨b,8,none⟩=some v8:=
 ⟨h.1,h.2.1 0 _ rfl,h.2.1 1 _ rfl,h.2.1 2 _ rfl,h.2.1 3 _ rfl,h.2.1 4 _ rfl,h.2.1 5 _ rfl,h.2.1 6 _ rfl,h.2.1 7 _ rfl,h.2.1 8 _ rfl⟩
theorem vAt_eq (pe:Int) (l:List Int) (k:Nat) (h:k<l.length):vAt pe l k=(isP l[k] pe&&(k==0 || decide (l.getD (k-1) 0<l[k]))):=by unfold vAt;rw [yh_ l k h]
theorem vN_ (id pe te vo co ro:Int) (vl vv vm:Value) (log:List En) (vs mt:List Int) (w:World) (hl:ER w vl log) (hv:IL w vv vs) (hm:IL w vm mt) (nl:log.length≤1048576) (nv:vs.length≤1048576) (nm:mt.length≤1048576) (ns:∀i (h:i<log.length),log[i].d.size≤1048576):
  Calls Tryz.prog 150 #[.agg #[id,pe,te,vo,vl,co,ro,vv,vm]] w fun e w'=>e= .returned (.bool (xS_ pe id vs))∧Below w.heap.size w w':=by
 have hv0:=hv;obtain⟨la,lc,rfl,hlc⟩:=hl;obtain⟨va,vc,rfl,hvc⟩:=hv;obtain⟨ma,mc,rfl,hmc⟩:=hm;have hB:=zb_ w (.cells #[id,pe,te,vo,.slice la log.length lc,co,ro,.slice va vs.length vc,.slice ma mt.length mc] 42);have X:=Box.new w #[id,pe,te,vo,.slice la log.length lc,co,ro,.slice va vs.length vc,.slice ma mt.length mc] 42;obtain⟨W0,hW0⟩:∃W0,W0=w.alloc (.cells #[id,pe,te,vo,.slice la log.length lc,co,ro,.slice va vs.length vc,.slice ma mt.length mc] 42):=⟨_,rfl⟩;rw [←hW0] at hB X;obtain⟨hxl,x0,x1,x2,x3,x4,x5,x6,x7,x8⟩:=X.e9;have HO:Hid (xS_ pe id vs=(gV pe vs&&(hsI vs id&& !decide (pe<2*(vs.length:Int))))):=rfl;clear hlc hmc ns;go_enter Tryz.func150,Tryz.ntmps150;go_wp2;rw [←hW0];clear hW0
 go_loopw [8] (fun i wr=>∃k:Nat,k≤vs.length∧i= .int .i64 k∧vTo pe vs k=true∧wr=W0) (fun i _=>vs.length-(intOf i).toNat)
 case atStart=>exact⟨0,Nat.zero_le _,rfl,rfl,rfl⟩
 case round=>
  obtain⟨k,hk,rfl,hg,rfl⟩:=hrel;by_cases hlt:k<vs.length
  ·obtain⟨b,off,rfl,hbl,hcell⟩:=hvc (by intro e;simp [e] at hlt);have hc0:=(hB.cell (p:=⟨b,off+k,none⟩) hbl).trans (hcell k hlt);have KI:=fun w=>yA_ vs[k] pe w;have HAT:Hid (vAt pe vs k=(isP vs[k] pe&&(k==0 || decide (vs.getD (k-1) 0<vs[k])))):=vAt_eq pe vs k hlt;have HF:Hid (vAt pe vs k=false→gV pe vs=false):=fun h=>vX_ pe vs k _ hlt h;have HN:Hid (vAt pe vs k=true→vTo pe vs (k+1)=true):=fun h=>by simp only [vTo,hg,h];rfl
   have hbW:b<wr.heap.size:=by have:=hB.size;omega
   cases hK:isP vs[k] pe with
   | false=>
    have HR:Hid (gV pe vs=false):=HF.out (by rw [HAT.out,hK];rfl);rw [hK] at KI;clear hcell hvc HAT hg hK HF HN hv0;generalize vs[k]=s at*;go_wp2_with fail;refine (KI _).mono ?_;rintro e w1 ⟨rfl,rfl⟩;go_wp2;go_ret;exact⟨by rw [HO.out,HR.out];rfl,hB⟩
   | true=>
    rw [hK] at KI;by_cases k0:k=0
    ·subst k0;have HG:Hid (vTo pe vs (0+1)=true):=HN.out (by rw [HAT.out,hK];rfl);rw [Nat.add_zero] at hc0;clear hcell hvc HAT hg hK HF HN hv0;generalize vs[0]=s at*;go_wp2_with fail;refine (KI _).mono ?_;rintro e w1 ⟨rfl,rfl⟩;go_wp2;go_roundw
     case rel=>exact⟨1,by omega,by go_num,HG.out,by first | rfl | trivial⟩
     case measure=>simp [intOf];omega
    ·obtain⟨j,rfl⟩:∃j,k=j+1:=⟨k-1,by omega⟩;have hj:j<vs.length:=by omega
     have hd0:=(hB.cell (p:=⟨b,off+j,none⟩) hbl).trans (hcell j hj);have hdd:vs.getD (j+1-1) 0=vs[j]:=yh_ vs j hj;have HAT2:Hid (vAt pe vs (j+1)=decide (vs[j]<vs[j+1])):=by show _=_;rw [HAT.out,hK,hdd];simp
     have hpos:(0:Int)<((j+1:Nat):Int):=by omega
     have hj1:(((j+1:Nat):Int)-1)=(j:Int):=by omega
     by_cases hle:vs[j+1]≤vs[j]
     ·have HR:Hid (gV pe vs=false):=HF.out (by rw [HAT2.out];simp;omega);clear hcell hvc HAT hg hK HF HN hv0 HAT2 hdd;generalize vs[j+1]=s at*;generalize vs[j]=q at*;go_wp2_with fail;refine (KI _).mono ?_;rintro e w1 ⟨rfl,rfl⟩;go_wp2;go_ret;exact⟨by rw [HO.out,HR.out];rfl,hB⟩
     ·have HG:Hid (vTo pe vs (j+1+1)=true):=HN.out (by rw [HAT2.out];simp;omega);clear hcell hvc HAT hg hK HF HN hv0 HAT2 hdd;generalize vs[j+1]=s at*;generalize vs[j]=q at*;go_wp2_with fail;refine (KI _).mono ?_;rintro e w1 ⟨rfl,rfl⟩;go_wp2;go_roundw
      case rel=>exact⟨j+1+1,by omega,by go_num,HG.out,by first | rfl | trivial⟩
      case measure=>simp [intOf];omega
  ·obtain rfl:k=vs.length:=by omega
   have HR:Hid (gV pe vs=true):=hg;have KC:=tW_ _ vs id wr (hv0.below hB) nv;have KM:=fun w=>yB_ id pe te vo co ro (vs.length:Int) (.slice la log.length lc) (.slice va vs.length vc) (.slice ma mt.length mc) w (by omega) (by omega);clear hvc hg hv0;generalize hsI vs id=b1 at*;generalize decide (pe<2*(vs.length:Int))=b2 at*;go_wp2_with fail;refine KC.mono ?_;rintro e w1 ⟨rfl,rfl⟩;clear KC
   cases b1 with
   | false=>
    go_wp2;go_ret;exact⟨by rw [HO.out,HR.out];rfl,hB⟩
   | true=>
    go_wp2_with fail;refine (KM _).mono ?_;rintro e w1 ⟨rfl,hb1⟩;clear KM;go_wp2;go_ret;exact⟨by rw [HO.out,HR.out];rfl,za_ hB hb1⟩
theorem vP_ (id pe te vo co ro:Int) (vl vv vm:Value) (log:List En) (vs mt:List Int) (w:World) (hl:ER w vl log) (hv:IL w vv vs) (hm:IL w vm mt) (nl:log.length≤1048576) (nv:vs.length≤1048576) (nm:mt.length≤1048576) (ns:∀i (h:i<log.length),log[i].d.size≤1048576) (hi0:0≤id) (hi1:id<pe):
  Calls Tryz.prog 151 #[.agg #[id,pe,te,vo,vl,co,ro,vv,vm]] w fun e w'=>e= .returned (.bool (yw_ pe id log.length mt))∧Below w.heap.size w w':=by
 obtain⟨la,lc,rfl,hlc⟩:=hl;obtain⟨va,vc,rfl,hvc⟩:=hv;obtain⟨ma,mc,rfl,hmc⟩:=hm;have hB:=zb_ w (.cells #[id,pe,te,vo,.slice la log.length lc,co,ro,.slice va vs.length vc,.slice ma mt.length mc] 42);have X:=Box.new w #[id,pe,te,vo,.slice la log.length lc,co,ro,.slice va vs.length vc,.slice ma mt.length mc] 42;obtain⟨W0,hW0⟩:∃W0,W0=w.alloc (.cells #[id,pe,te,vo,.slice la log.length lc,co,ro,.slice va vs.length vc,.slice ma mt.length mc] 42):=⟨_,rfl⟩;rw [←hW0] at hB X;obtain⟨hxl,x0,x1,x2,x3,x4,x5,x6,x7,x8⟩:=X.e9;have HO:Hid (yw_ pe id log.length mt=(decide ((mt.length:Int)=pe)&&(gM log.length mt&&decide (mt.getD id.toNat 0=(log.length:Int))))):=rfl;clear hlc hvc ns;by_cases hp:(mt.length:Int)=pe
 ·obtain⟨i,rfl⟩:=Int.eq_ofNat_of_zero_le hi0;have hil:i<mt.length:=by omega
  have HE:Hid (yw_ pe (i:Int) log.length mt=(gM log.length mt&&decide (mt[i]=(log.length:Int)))):=by
   show _=_;rw [HO.out,decide_eq_true hp,Int.toNat_natCast,yh_ mt i hil];rfl
  clear HO;have HP:Hid ((mt.length:Int)=pe):=hp;subst hp;go_enter Tryz.func151,Tryz.ntmps151;go_wp2;rw [←hW0];clear hW0
  go_loopw [14] (fun z wr=>∃k:Nat,k≤mt.length∧z= .int .i64 k∧gM log.length mt=gM log.length (mt.drop k)∧wr=W0) (fun z _=>mt.length-(intOf z).toNat)
  case atStart=>exact⟨0,Nat.zero_le _,rfl,rfl,rfl⟩
  case round=>
   obtain⟨k,hk,rfl,hg,rfl⟩:=hrel;obtain⟨b,off,rfl,hbl,hcell⟩:=hmc (by intro e;simp [e] at hil);by_cases hlt:k<mt.length
   ·have hc0:=(hB.cell (p:=⟨b,off+k,none⟩) hbl).trans (hcell k hlt);have HD:Hid (gM log.length mt=((decide (0≤mt[k])&&decide (mt[k]≤(log.length:Int)))&&gM log.length (mt.drop (k+1)))):=by show _=_;rw [hg,po_ _ mt k hlt]
    clear hcell hmc hg;generalize mt[k]=s at*;by_cases h1:s<0
    ·have HR:Hid (gM log.length mt=false):=by show _=_;rw [HD.out,decide_eq_false (by omega)];rfl
     clear HD;go_wp2;go_ret;exact⟨by rw [HE.out,HR.out];rfl,hB⟩
    ·by_cases h2:(log.length:Int)<s
     ·have HR:Hid (gM log.length mt=false):=by show _=_;rw [HD.out,decide_eq_false (show ¬s≤(log.length:Int) from by omega),Bool.and_false];rfl
      clear HD;go_wp2;go_ret;exact⟨by rw [HE.out,HR.out];rfl,hB⟩
     ·have HR:Hid (gM log.length mt=gM log.length (mt.drop (k+1))):=by show _=_;rw [HD.out,decide_eq_true (show 0≤s from by omega),decide_eq_true (show s≤(log.length:Int) from by omega)];rfl
      clear HD;go_wp2;go_roundw
      case rel=>exact⟨k+1,by omega,by go_num,HR.out,by first | rfl | trivial⟩
      case measure=>simp [intOf];omega
   ·obtain rfl:k=mt.length:=by omega
    have hd0:=(hB.cell (p:=⟨b,off+i,none⟩) hbl).trans (hcell i hil);have HR:Hid (gM log.length mt=true):=by show _=_;rw [hg,List.drop_length];rfl
    clear hcell hmc hg;generalize mt[i]=s at*;by_cases hse:s=(log.length:Int)
    ·subst hse;go_wp2_with fail
     go_quiet (fail)
     go_wp2;go_ret;exact⟨by rw [HE.out,HR.out];simp,below_drewN hB _⟩
    ·go_wp2_with fail
     go_quiet (fail)
     go_wp2;go_ret;exact⟨by rw [HE.out,HR.out];simp [hse],below_drewN hB _⟩
 ·have HE:Hid (yw_ pe id log.length mt=false):=by
   show _=_;rw [HO.out,decide_eq_false hp];rfl
  clear HO;go_enter Tryz.func151,Tryz.ntmps151;go_wp2;rw [←hW0];go_ret;exact⟨by rw [HE.out];try rfl,hB⟩
end Go.Proofs.YtapfhhmimkkhnaaGreat
