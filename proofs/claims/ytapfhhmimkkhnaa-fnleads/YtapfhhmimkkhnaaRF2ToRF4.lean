/-
  Agreement, plainly: what an append makes of a log; what stays kept and complete when one proposes, accepts, or goes to a later term.
  Agreement, plainly: an election, and what is decided.
  Agreement, plainly: the whole invariant, and that each event keeps it.
-/
import Derived.Test.YtapfhhmimkkhnaaCToRF1
namespace Go.Proofs.Ytapfhhmimkkhnaa
set_option linter.unusedVariables false
def lgW (P:List En) (ix:Nat):List En→List En
 | []=>P
 | e::r=>if ix<P.length∧(P.getD ix En.zero).t=e.t then lgW P (ix+1) r else P.take ix++(e::r)
def Piece (L:List En) (ix:Nat) (es:List En):Prop:=∀k (h:k<es.length),∃h2:ix+k<L.length,es[k]=L[ix+k]
theorem Piece.tail {L:List En} {ix:Nat} {e:En} {r:List En} (h:Piece L ix (e::r)):Piece L (ix+1) r:=fun k hk=>by
 obtain⟨h2,e2⟩:=h (k+1) (by simpa using hk);have e3:ix+(k+1)=ix+1+k:=by omega
 refine⟨by omega,?_⟩;simp only [List.getElem_cons_succ] at e2;rw [e2]
 congr 1
theorem Piece.take {L:List En} {ix:Nat} {es:List En} (h:Piece L ix es) (hix:ix≤L.length):L.take ix++es=L.take (ix+es.length)∧ix+es.length≤L.length:=by
 induction es generalizing ix with
 | nil=>simp;omega
 | cons e r ih=>
  obtain⟨h2,e2⟩:=h 0 (by simp);simp only [List.getElem_cons_zero,Nat.add_zero] at e2 h2;obtain⟨i1,i2⟩:=ih h.tail (by omega);refine⟨?_,by simp only [List.length_cons];omega⟩;rw [show ix+(e::r).length=ix+1+r.length from by simp;omega,←i1,←List.take_append_getElem h2,←e2];simp
theorem accept {LL:Int→List En} {P L:List En} (hP:Ok LL P) (hL:Ok LL L) (es:List En):∀ix,Has P L ix→Piece L ix es→
  Has (lgW P ix es) L (ix+es.length)∧(lgW P ix es=P∨lgW P ix es=L.take (ix+es.length))∧∀z,Has P L z→Has (lgW P ix es) L z:=by
 induction es with
 | nil=>intro ix hx hp;exact⟨by simpa [lgW] using hx,.inl rfl,fun z hz=>hz⟩
 | cons e r ih=>
  intro ix hx hp;obtain⟨h2,e2⟩:=hp 0 (by simp);simp only [List.getElem_cons_zero,Nat.add_zero] at e2 h2;by_cases hc:ix<P.length∧(P.getD ix En.zero).t=e.t
  ·have hg:P.getD ix En.zero=P[ix]'hc.1:=by simp [List.getD,hc.1]
   have hm:Has P L (ix+1):=matching hP hL ix hc.1 h2 (by have h3:=hc.2;rw [hg] at h3;exact h3.trans (congrArg En.t e2));have:=ih (ix+1) hm hp.tail;rw [show ix+1+r.length=ix+(e::r).length from by simp;omega] at this;simp only [lgW,if_pos hc];exact this
  ·obtain⟨t1,t2⟩:=hp.take hx.2.1;have hl:lgW P ix (e::r)=L.take (ix+(e::r).length):=by
    simp only [lgW,if_neg hc];rw [hx.2.2,t1]
   rw [hl];refine⟨has_take L _ _ (Nat.le_refl _) t2,.inr rfl,fun z hz=>has_take L _ _ ?_ t2⟩;apply Classical.byContradiction;intro hn;have hzi:ix<z:=by simp only [List.length_cons] at hn;omega
   have hpl:ix<P.length:=Nat.lt_of_lt_of_le hzi hz.1;have hg:P.getD ix En.zero=P[ix]'hpl:=by simp [List.getD,hpl]
   exact hc ⟨hpl,by rw [hg,hz.at hzi,e2]⟩
theorem Kept.accept {g:Gh} {P P':List En} {j:Nat} {W:Int} (h:Kept g P j (W+1)) (hel:g.el W) (hEL:Has (g.E W) (g.LL W) (g.E W).length)
  (hz:∀z,Has P (g.LL W) z→Has P' (g.LL W) z):Kept g P' j (W+1):=by
 intro T x hT hx hxT hak;rcases h T x hT hx hxT hak with h1 | h1
 ·by_cases hTW:T=W
  ·subst hTW;exact .inl (hz _ h1)
  ·by_cases hE:Has (g.E W) (g.LL T) (x+1)
   ·have hLW:Has (g.LL W) (g.LL T) (x+1):=(hEL.mono hE.1).symm.trans hE;exact .inl ((hz _ (h1.trans hLW.symm)).trans hLW)
   ·exact .inr ⟨W,by omega,by omega,hel,hE⟩
 ·exact .inr h1
theorem Kept.later {g:Gh} {P:List En} {j:Nat} {B B':Int} (h:Kept g P j B) (hB:B≤B') (hn:∀T,B≤T→g.ack j T=0):Kept g P j B':=by
 intro T x hT hx hxT hak;by_cases hTB:T<B
 ·rcases h T x hTB hx hxT hak with h1 | ⟨U,h1,h2,h3⟩
  ·exact .inl h1
  ·exact .inr ⟨U,h1,by omega,h3⟩
 ·rw [hn T (by omega)] at hak;omega
theorem Kept.told {g:Gh} {P:List En} {j:Nat} {W:Int} (h:Kept g P j (W+1)) (y:Nat) (hy:Has P (g.LL W) y) (i:Nat):
  Kept { g with ack:=fun i' T=>if i'=j∧T=W then max (g.ack j W) y else g.ack i' T } P j (W+1):=by
 intro T x hT hx hxT hak;dsimp only at hx hxT hak ⊢;by_cases hTW:T=W
 ·subst hTW;simp only [and_self,if_true] at hak;by_cases hxy:x<y
  ·exact .inl (hy.mono (by omega))
  ·exact h T x hT hx hxT (by omega)
 ·rw [if_neg (fun hh=>hTW hh.2)] at hak;exact h T x hT hx hxT hak
theorem Kept.toldOther {g:Gh} {P:List En} {j i:Nat} {B W:Int} (h:Kept g P j B) (y:Nat) (hij:i≠j∨B≤W):
  Kept { g with ack:=fun i' T=>if i'=i∧T=W then max (g.ack i W) y else g.ack i' T } P j B:=by
 intro T x hT hx hxT hak;dsimp only at hx hxT hak ⊢;by_cases hc:j=i∧T=W
 ·exfalso
  rcases hij with h1 | h1
  ·exact h1 hc.1.symm
  ·omega
 ·rw [if_neg hc] at hak;exact h T x hT hx hxT hak
theorem Kept.propose {g:Gh} {P:List En} {j:Nat} {B W:Int} (h:Kept g P j B) (e:En) (hak:∀i T,g.ack i T≤(g.LL T).length):
  Kept { g with LL:=fun T=>if T=W then g.LL W++ [e] else g.LL T } P j B:=by
 intro T x hT hx hxT hk;dsimp only at hx hxT hk ⊢;by_cases hTW:T=W
 ·subst hTW;simp only [if_true] at hx hxT ⊢;have hl:x<(g.LL T).length:=Nat.lt_of_lt_of_le hk (hak j T);rw [List.getElem_append_left hl] at hxT;rcases h T x hT hl hxT hk with h1 | ⟨U,u1,u2,u3,u4⟩
  ·exact .inl (has_grown h1 _)
  ·refine .inr ⟨U,u1,u2,u3,fun hh=>u4 ?_⟩;refine⟨hh.1,by omega,?_⟩;have:=hh.2.2
   rwa [List.take_append_of_le_length (by omega)] at this
 ·simp only [if_neg hTW] at hx hxT ⊢;exact h T x hT hx hxT hk
theorem zF_.propose {n:Nat} {g:Gh} {tm:Nat→Int} {W:Int} (h:zF_ n g tm) (e:En) (hak:∀i T,g.ack i T≤(g.LL T).length) (hvot:∀U,g.el U→Maj n fun j=>U≤tm j):
  zF_ n { g with LL:=fun T=>if T=W then g.LL W++ [e] else g.LL T } tm:=by
 intro T U x hTU hel hx hxT;dsimp only at hel hx hxT ⊢;by_cases hTW:T=W
 ·subst hTW;simp only [if_true] at hx hxT ⊢;by_cases hl:x<(g.LL T).length
  ·rw [List.getElem_append_left hl] at hxT;rcases h T U x hTU hel hl hxT with h1 | h1
   ·exact .inl (has_grown h1 _)
   ·exact .inr h1
  ·refine .inr ((hvot U hel).mono fun j _ hj=> ?_);have:=hak j T;exact⟨by omega,by omega⟩
 ·simp only [if_neg hTW] at hx hxT ⊢;exact h T U x hTU hel hx hxT
theorem zF_.told {n:Nat} {g:Gh} {tm:Nat→Int} {W:Int} {i:Nat} (h:zF_ n g tm) (y:Nat) (hW:tm i=W):
  zF_ n { g with ack:=fun i' T=>if i'=i∧T=W then max (g.ack i W) y else g.ack i' T } tm:=by
 intro T U x hTU hel hx hxT;dsimp only at hel hx hxT ⊢;rcases h T U x hTU hel hx hxT with h1 | h1
 ·exact .inl h1
 ·refine .inr (h1.mono fun j _ hj=>⟨hj.1,?_⟩);rw [if_neg fun hc=>by have:=hj.1;rw [hc.1,hc.2,hW] at this;omega];exact hj.2
theorem zF_.later {n:Nat} {g:Gh} {tm tm':Nat→Int} (h:zF_ n g tm) (ht:∀j,tm j≤tm' j):zF_ n g tm':=by
 intro T U x hTU hel hx hxT;rcases h T U x hTU hel hx hxT with h1 | h1
 ·exact .inl h1
 ·exact .inr (h1.mono fun j _ hj=>⟨by have:=ht j;omega,hj.2⟩)
theorem zF_.decided {n:Nat} {g:Gh} {tm:Nat→Int} (h:zF_ n g tm) {T U:Int} {x:Nat} (hTU:T<U) (hel:g.el U) (hx:x<(g.LL T).length) (hxT:(g.LL T)[x].t=T) (hm:Maj n fun j=>x<g.ack j T):Has (g.E U) (g.LL T) (x+1):=by
 rcases h T U x hTU hel hx hxT with h1 | h1
 ·exact h1
 ·obtain⟨j,_,h2,h3⟩:=h1.meet hm;omega
end Go.Proofs.Ytapfhhmimkkhnaa
namespace Go.Proofs.Ytapfhhmimkkhnaa
open Classical in
set_option linter.unusedVariables false
noncomputable def Gh.elect (g:Gh) (W:Int) (k:Nat) (P:List En):Gh where
 el:=fun T=>T=W∨g.el T
 E:=fun T=>if T=W then P else g.E T
 LL:=fun T=>if T=W then P else g.LL T
 ack:=fun i T=>if i=k∧T=W then P.length else g.ack i T
theorem Gh.elect_LL_ne (g:Gh) {W T:Int} (k:Nat) (P:List En) (h:¬T=W):(g.elect W k P).LL T=g.LL T:=by simp [Gh.elect,h]
theorem Gh.elect_E_ne (g:Gh) {W T:Int} (k:Nat) (P:List En) (h:¬T=W):(g.elect W k P).E T=g.E T:=by simp [Gh.elect,h]
theorem Gh.elect_LL (g:Gh) (W:Int) (k:Nat) (P:List En):(g.elect W k P).LL W=P:=by simp [Gh.elect]
theorem Gh.elect_E (g:Gh) (W:Int) (k:Nat) (P:List En):(g.elect W k P).E W=P:=by simp [Gh.elect]
theorem Gh.elect_ack (g:Gh) {W T:Int} (k i:Nat) (P:List En) (h:¬T=W):(g.elect W k P).ack i T=g.ack i T:=by simp [Gh.elect,h]
theorem Kept.elect {g:Gh} {Q P:List En} {j k:Nat} {B W:Int} (h:Kept g Q j B) (hPW:∀i (h:i<P.length),P[i].t<W) (hne:¬g.el W):Kept (g.elect W k P) Q j B:=by
 intro T x hT hx hxT hak;by_cases hTW:T=W
 ·subst hTW
  exfalso
  have e:=g.elect_LL T k P;have hx2:x<P.length:=by rw [e] at hx;exact hx
  have h1:=hPW x hx2;have h2:((g.elect T k P).LL T)[x]=P[x]:=by congr 1
  rw [h2] at hxT;omega
 ·have e:=g.elect_LL_ne k P hTW;rw [g.elect_ack k j P hTW] at hak;have hx2:x<(g.LL T).length:=by rw [←e];exact hx
  have h2:((g.elect W k P).LL T)[x]=(g.LL T)[x]:=by congr 1
  rw [h2] at hxT;rw [e];rcases h T x hT hx2 hxT hak with h1 | ⟨U,u1,u2,u3,u4⟩
  ·exact .inl h1
  ·have hUW:¬U=W:=fun h=>hne (h ▸ u3);exact .inr ⟨U,u1,u2,.inr u3,by rw [g.elect_E_ne k P hUW];exact u4⟩
theorem zF_.elect {n:Nat} {g:Gh} {tm:Nat→Int} {W:Int} {k:Nat} {P:List En} (h:zF_ n g tm) (hPW:∀i (h:i<P.length),P[i].t<W)
  (hP:∀T x,T<W→∀h:x<(g.LL T).length,(g.LL T)[x].t=T→Has P (g.LL T) (x+1)∨Maj n fun j=>T<tm j∧g.ack j T<x+1):zF_ n (g.elect W k P) tm:=by
 intro T U x hTU hel hx hxT;by_cases hTW:T=W
 ·subst hTW
  exfalso
  have e:=g.elect_LL T k P;have hx2:x<P.length:=by rw [e] at hx;exact hx
  have h1:=hPW x hx2;have h2:((g.elect T k P).LL T)[x]=P[x]:=by congr 1
  rw [h2] at hxT;omega
 ·have e:=g.elect_LL_ne k P hTW;have hx2:x<(g.LL T).length:=by rw [←e];exact hx
  have h2:((g.elect W k P).LL T)[x]=(g.LL T)[x]:=by congr 1
  rw [h2] at hxT;rw [e];have hmj:∀j,(g.elect W k P).ack j T=g.ack j T:=fun j=>g.elect_ack k j P hTW;by_cases hUW:U=W
  ·subst hUW;rw [g.elect_E];rcases hP T x hTU hx2 hxT with h1 | h1
   ·exact .inl h1
   ·exact .inr (h1.mono fun j _ hj=>⟨hj.1,by rw [hmj];exact hj.2⟩)
  ·have hel2:g.el U:=by
    rcases hel with h1 | h1
    ·exact absurd h1 hUW
    ·exact h1
   rw [g.elect_E_ne k P hUW];rcases h T U x hTU hel2 hx2 hxT with h1 | h1
   ·exact .inl h1
   ·exact .inr (h1.mono fun j _ hj=>⟨hj.1,by rw [hmj];exact hj.2⟩)
def Decided (n:Nat) (g:Gh) (T:Int) (x:Nat):Prop:=∃h:x<(g.LL T).length,(g.LL T)[x].t=T∧g.el T∧Maj n fun j=>x<g.ack j T
def zn_ (n:Nat) (g:Gh) (P:List En) (c:Nat) (B:Int):Prop:=c=0∨∃T x,Decided n g T x∧T≤B∧c≤x+1∧Has P (g.LL T) c
theorem Decided.later {n:Nat} {g:Gh} {tm:Nat→Int} (hC:zF_ n g tm) (hEL:∀U,g.el U→Has (g.E U) (g.LL U) (g.E U).length) {T U:Int} {x:Nat} (hd:Decided n g T x) (hTU:T≤U) (hel:g.el U):Has (g.LL U) (g.LL T) (x+1):=by
 obtain⟨hx,hxT,hT,hm⟩:=hd;by_cases h:T=U
 ·subst h;exact Has.refl _ _ (by omega)
 ·have h1:=hC.decided (by omega) hel hx hxT hm;exact ((hEL U hel).mono h1.1).symm.trans h1
theorem zn_.same {n:Nat} {g:Gh} {tm:Nat→Int} (hC:zF_ n g tm) (hEL:∀U,g.el U→Has (g.E U) (g.LL U) (g.E U).length) {P Q:List En} {c d:Nat} {B B':Int} (hP:zn_ n g P c B) (hQ:zn_ n g Q d B') (hcd:c≤d):Has P Q c:=by
 rcases hP with rfl | ⟨T,x,d1,t1,c1,a1⟩
 ·exact Has.zero _ _
 ·rcases hQ with rfl | ⟨U,y,d2,t2,c2,a2⟩
  ·obtain rfl:c=0:=by omega
   exact Has.zero _ _
  ·by_cases hTU:T≤U
   ·have h1:=Decided.later hC hEL d1 hTU d2.2.2.1;exact (a1.trans (h1.mono (by omega)).symm).trans (a2.mono hcd).symm
   ·have h1:=Decided.later hC hEL d2 (show U≤T from by omega) d1.2.2.1;exact (a1.trans (h1.mono (by omega))).trans (a2.mono hcd).symm
theorem zn_.lead {n:Nat} {g:Gh} {tm:Nat→Int} (hC:zF_ n g tm) (hEL:∀U,g.el U→Has (g.E U) (g.LL U) (g.E U).length) {P:List En} {c:Nat} {B U:Int} (hP:zn_ n g P c B) (hBU:B≤U) (hel:g.el U):Has P (g.LL U) c:=by
 rcases hP with rfl | ⟨T,x,d1,t1,c1,a1⟩
 ·exact Has.zero _ _
 ·exact a1.trans ((Decided.later hC hEL d1 (by omega) hel).mono (by omega)).symm
theorem zn_.append {n:Nat} {g:Gh} {tm:Nat→Int} (hC:zF_ n g tm) (hEL:∀U,g.el U→Has (g.E U) (g.LL U) (g.E U).length) {P P':List En} {c:Nat} {B W:Int} (hP:zn_ n g P c B) (hBW:B≤W) (hel:g.el W) (hz:∀z,Has P (g.LL W) z→Has P' (g.LL W) z):zn_ n g P' c B:=by
 have h1:=hP.lead hC hEL hBW hel;rcases hP with rfl | ⟨T,x,d1,t1,c1,a1⟩
 ·exact .inl rfl
 ·exact .inr ⟨T,x,d1,t1,c1,(hz c h1).trans (h1.symm.trans a1)⟩
end Go.Proofs.Ytapfhhmimkkhnaa
namespace Go.Proofs.Ytapfhhmimkkhnaa
set_option linter.unusedVariables false
def yj_ (g:Gh) (P:List En) (B:Int):Prop:=Ok g.LL P∧Srt P∧∀i (h:i<P.length),P[i].t≤B∧g.el P[i].t
theorem yj_.mono {g:Gh} {P:List En} {B B':Int} (h:yj_ g P B) (hB:B≤B'):yj_ g P B':=⟨h.1,h.2.1,fun i hi=>⟨by have:=(h.2.2 i hi).1;omega,(h.2.2 i hi).2⟩⟩
theorem yj_.elect {g:Gh} {P Q:List En} {B W:Int} {k:Nat} (h:yj_ g P B) (hne:¬g.el W):yj_ (g.elect W k Q) P B:=by
 refine⟨fun i hi=> ?_,h.2.1,fun i hi=>⟨(h.2.2 i hi).1,.inr (h.2.2 i hi).2⟩⟩;have hn:¬P[i].t=W:=fun e=>hne (e ▸ (h.2.2 i hi).2);rw [g.elect_LL_ne k Q hn];exact h.1 i hi
def Gh.prop (g:Gh) (W:Int) (e:En):Gh:= { g with LL:=fun T=>if T=W then g.LL W++ [e] else g.LL T }
def Gh.tell (g:Gh) (j:Nat) (W:Int) (y:Nat):Gh:= { g with ack:=fun i' T=>if i'=j∧T=W then max (g.ack j W) y else g.ack i' T }
theorem yj_.prop {g:Gh} {P:List En} {B W:Int} (h:yj_ g P B) (e:En):yj_ (g.prop W e) P B:=by
 refine⟨fun i hi=> ?_,h.2.1,h.2.2⟩;have:=h.1 i hi;unfold Gh.prop;dsimp only;by_cases hc:P[i].t=W
 ·rw [if_pos hc,←hc];exact has_grown this _
 ·rw [if_neg hc];exact this
theorem yj_.tell {g:Gh} {P:List En} {B W:Int} {j y:Nat} (h:yj_ g P B):yj_ (g.tell j W y) P B:=h
theorem yj_.take {g:Gh} {P:List En} {B:Int} (h:yj_ g P B) (y:Nat) (hy:y≤P.length):yj_ g (P.take y) B:=by
 have hl:∀i,i<(P.take y).length→i<y∧i<P.length:=fun i hi=>by simp at hi;omega
 refine⟨fun i hi=> ?_,fun i j hi hj hij=> ?_,fun i hi=> ?_⟩
 ·have:=hl i hi;have e:(P.take y)[i]=P[i]'this.2:=by simp
  rw [e];exact (has_take P (i+1) y (by omega) hy).trans (h.1 i this.2)
 ·have:=hl i hi;have:=hl j hj;simpa using h.2.1 i j (by omega) (by omega) hij
 ·have:=hl i hi;simpa using h.2.2 i this.2
theorem yj_.snoc {g:Gh} {W:Int} {e:En} (h:yj_ g (g.LL W) W) (hel:g.el W) (he:e.t=W):yj_ (g.prop W e) (g.LL W++ [e]) W:=by
 have h':=yj_.prop (W:=W) h e;have key:∀i (hi:i<(g.LL W++ [e]).length),(∃h2:i<(g.LL W).length,(g.LL W++ [e])[i]=(g.LL W)[i])∨(i=(g.LL W).length∧(g.LL W++ [e])[i]=e):=fun i hi=>by
  by_cases h2:i<(g.LL W).length
  ·exact .inl ⟨h2,List.getElem_append_left h2⟩
  ·have:i=(g.LL W).length:=by simp at hi;omega
   subst this;exact .inr ⟨rfl,by simp⟩
 refine⟨fun i hi=> ?_,fun i j hi hj hij=> ?_,fun i hi=> ?_⟩
 ·rcases key i hi with⟨h2,e2⟩ | ⟨h2,e2⟩
  ·rw [e2];exact (has_grown (h'.1 i h2).symm _).symm
  ·rw [e2,he];unfold Gh.prop;dsimp only;rw [if_pos rfl];exact Has.refl _ _ (by omega)
 ·rcases key i hi with⟨h2,e2⟩ | ⟨h2,e2⟩
  ·rcases key j hj with⟨h3,e3⟩ | ⟨h3,e3⟩
   ·rw [e2,e3];exact h.2.1 i j h2 h3 hij
   ·rw [e2,e3,he];exact (h.2.2 i h2).1
  ·rcases key j hj with⟨h3,e3⟩ | ⟨h3,e3⟩
   ·omega
   ·rw [e2,e3];exact Int.le_refl _
 ·rcases key i hi with⟨h2,e2⟩ | ⟨h2,e2⟩
  ·rw [e2];exact h.2.2 i h2
  ·rw [e2,he];exact⟨Int.le_refl _,hel⟩
theorem Kept.grown {g:Gh} {P:List En} {j:Nat} {B:Int} (h:Kept g P j B) (r:List En):Kept g (P++r) j B:=by
 intro T x hT hx hxT hak;rcases h T x hT hx hxT hak with h1 | h1
 ·exact .inl (has_grown h1.symm r).symm
 ·exact .inr h1
structure Sys where
 tm:Nat→Int
 lg:Nat→List En
 g:Gh
 wh:Int→Nat
 V:Nat→Int→Option Nat
 S:Nat→Int→List En
 C:Int→Nat→Option (List En)
structure AInv (n:Nat) (s:Sys):Prop where
 vt:∀j T k,s.V j T=some k→T≤s.tm j∧yj_ s.g (s.S j T) T∧(∃P,s.C T k=some P∧UpTo P (s.S j T))∧(¬s.g.el T→Kept s.g (s.S j T) j T)
 cd:∀T k P,s.C T k=some P→yj_ s.g P (T-1)∧T≤s.tm k
 lo:∀j,yj_ s.g (s.lg j) (s.tm j)∧Kept s.g (s.lg j) j (s.tm j+1)
 ld:∀T,s.g.el T→0<T∧T≤s.tm (s.wh T)∧(Maj n fun j=>s.V j T=some (s.wh T))∧s.C T (s.wh T)=some (s.g.E T)∧Has (s.g.E T) (s.g.LL T) (s.g.E T).length∧yj_ s.g (s.g.LL T) T
 no:∀T,¬s.g.el T→s.g.LL T= []∧∀j,s.g.ack j T=0
 ac:∀j T,s.g.ack j T≤(s.g.LL T).length∧(s.tm j<T→s.g.ack j T=0)
 cm:zF_ n s.g s.tm
theorem AInv.votes {n:Nat} {s:Sys} (h:AInv n s) (U:Int) (hel:s.g.el U):Maj n fun j=>U≤s.tm j:=(h.ld U hel).2.2.1.mono fun j _ hj=>(h.vt j U _ hj).1
theorem AInv.one {n:Nat} {s:Sys} (h:AInv n s) {T:Int} {k:Nat} (hel:s.g.el T) (hm:Maj n fun j=>s.V j T=some k):k=s.wh T:=by
 obtain⟨j,_,h1,h2⟩:=hm.meet (h.ld T hel).2.2.1;rw [h1] at h2;exact Option.some.inj h2
def Sys.term (s:Sys) (j:Nat) (T:Int):Sys:= { s with tm:=fun i=>if i=j then T else s.tm i }
theorem AInv.term {n:Nat} {s:Sys} (h:AInv n s) (j:Nat) (T:Int) (hT:s.tm j≤T):AInv n (s.term j T):=by
 have ht:∀i,s.tm i≤(s.term j T).tm i:=fun i=>by
  unfold Sys.term;dsimp only;split
  ·rename_i e;subst e;exact hT
  ·exact Int.le_refl _
 refine⟨fun i U k e=> ?_,fun U k P e=> ?_,fun i=> ?_,fun U e=> ?_,h.no,fun i U=>⟨(h.ac i U).1,fun hl=>(h.ac i U).2 (by have:=ht i;omega)⟩,h.cm.later ht⟩
 ·obtain⟨a,b⟩:=h.vt i U k e;exact⟨by have:=ht i;omega,b⟩
 ·obtain⟨a,b⟩:=h.cd U k P e;exact⟨a,by have:=ht k;omega⟩
 ·obtain⟨a,b⟩:=h.lo i;exact⟨a.mono (ht i),b.later (by have:=ht i;omega) fun U hU=>(h.ac i U).2 (by omega)⟩
 ·obtain⟨a,b,c⟩:=h.ld U e;exact⟨a,by have:=ht (s.wh U);show U≤(s.term j T).tm (s.wh U);omega,c⟩
def Sys.ask (s:Sys) (k:Nat):Sys:= { s with C:=fun T i=>if T=s.tm k∧i=k then some (s.lg k) else s.C T i }
theorem AInv.ask {n:Nat} {s:Sys} (h:AInv n s) (k:Nat) (hn:s.C (s.tm k) k=none) (hl:yj_ s.g (s.lg k) (s.tm k-1)):AInv n (s.ask k):=by
 have hC:∀T i P,s.C T i=some P→(s.ask k).C T i=some P:=fun T i P e=>by
  unfold Sys.ask;dsimp only;rw [if_neg];exact e;rintro⟨rfl,rfl⟩;rw [hn] at e;cases e
 refine⟨fun j T i e=> ?_,fun T i P e=> ?_,h.lo,fun T e=> ?_,h.no,h.ac,h.cm⟩
 ·obtain⟨a,b,⟨P,c1,c2⟩,d⟩:=h.vt j T i e;exact⟨a,b,⟨P,hC T i P c1,c2⟩,d⟩
 ·unfold Sys.ask at e;dsimp only at e
  split at e
  ·rename_i hc
   obtain⟨rfl,rfl⟩:=hc
   cases e
   exact⟨hl,Int.le_refl _⟩
  ·exact h.cd T i P e
 ·obtain⟨a,b,c,d,f⟩:=h.ld T e;exact⟨a,b,c,hC _ _ _ d,f⟩
def Sys.vote (s:Sys) (j k:Nat):Sys:= { s with V:=fun i T=>if i=j∧T=s.tm j then some k else s.V i T,S:=fun i T=>if i=j∧T=s.tm j then s.lg j else s.S i T }
theorem AInv.vote {n:Nat} {s:Sys} (h:AInv n s) (j k:Nat) (P:List En) (hn:s.V j (s.tm j)=none) (hC:s.C (s.tm j) k=some P) (hU:UpTo P (s.lg j)):AInv n (s.vote j k):=by
 refine⟨fun i T k' e=> ?_,h.cd,h.lo,fun T e=> ?_,h.no,h.ac,h.cm⟩
 ·unfold Sys.vote at e ⊢;dsimp only at e ⊢;by_cases hc:i=j∧T=s.tm j
  ·rw [if_pos hc] at e ⊢;obtain⟨rfl,rfl⟩:=hc
   cases e
   obtain⟨a,b⟩:=h.lo i;refine⟨Int.le_refl _,a,⟨P,hC,hU⟩,fun hel=> ?_⟩;intro T x hT hx hxT hak;rcases b T x (by omega) hx hxT hak with h1 | ⟨U,u1,u2,u3,u4⟩
   ·exact .inl h1
   ·have:¬U=s.tm i:=fun e=>hel (e ▸ u3);exact .inr ⟨U,u1,by omega,u3,u4⟩
  ·rw [if_neg hc] at e ⊢;exact h.vt i T k' e
 ·obtain⟨a,b,c,d⟩:=h.ld T e;refine⟨a,b,c.mono fun i _ hi=> ?_,d⟩;unfold Sys.vote;dsimp only;rw [if_neg];exact hi;rintro⟨rfl,rfl⟩;rw [hn] at hi;cases hi
noncomputable def Sys.lead (s:Sys) (k:Nat):Sys:= { s with g:=s.g.elect (s.tm k) k (s.lg k),wh:=fun T=>if T=s.tm k then k else s.wh T }
theorem AInv.lead {n:Nat} {s:Sys} (h:AInv n s) (k:Nat) (hne:¬s.g.el (s.tm k)) (hC:s.C (s.tm k) k=some (s.lg k)) (hm:Maj n fun j=>s.V j (s.tm k)=some k) (hp:0<s.tm k):AInv n (s.lead k):=by
 obtain⟨hP,_⟩:=h.cd _ _ _ hC;have hPW:∀i (h:i<(s.lg k).length),(s.lg k)[i].t<s.tm k:=fun i hi=>by have:=(hP.2.2 i hi).1;omega
 have hEL:∀U,s.g.el U→Has (s.g.E U) (s.g.LL U) (s.g.E U).length:=fun U hU=>(h.ld U hU).2.2.2.2.1;have hlm:∀T x,x<(s.g.LL T).length→s.g.el T:=fun T x hx=>by
  apply Classical.byContradiction;intro hc;rw [(h.no T hc).1] at hx;simp at hx
 have hcm:zF_ n (s.g.elect (s.tm k) k (s.lg k)) s.tm:=by
  refine h.cm.elect hPW (elected (s.tm k) (s.lg k) (fun j=>s.S j (s.tm k)) (fun j=>s.V j (s.tm k)=some k) h.cm hP.1 hP.2.1 hPW (fun i hi=>(hP.2.2 i hi).2) hEL (fun U=> ?_) (fun T x hx _=>(h.ld T (hlm T x hx)).1) hm fun j _ hv=> ?_)
  ·by_cases hU:s.g.el U
   ·exact (h.ld U hU).2.2.2.2.2.2.1
   ·rw [(h.no U hU).1];intro i j hi;simp at hi
  ·obtain⟨a,b,⟨P,c1,c2⟩,d⟩:=h.vt j _ _ hv;rw [hC] at c1
   cases c1
   exact⟨a,b.1,b.2.1,c2,d hne⟩
 refine⟨fun j T i e=> ?_,fun T i P e=> ?_,fun j=> ?_,fun T e=> ?_,fun T e=> ?_,fun j T=> ?_,hcm⟩
 ·obtain⟨a,b,c,d⟩:=h.vt j T i e;exact⟨a,b.elect hne,c,fun he=>(d fun hh=>he (.inr hh)).elect hPW hne⟩
 ·obtain⟨a,b⟩:=h.cd T i P e;exact⟨a.elect hne,b⟩
 ·obtain⟨a,b⟩:=h.lo j;exact⟨a.elect hne,b.elect hPW hne⟩
 ·by_cases hT:T=s.tm k
  ·subst hT;unfold Sys.lead;dsimp only;rw [if_pos rfl,s.g.elect_E,s.g.elect_LL];exact⟨hp,Int.le_refl _,hm,hC,Has.refl _ _ (Nat.le_refl _),(hP.elect hne).mono (by omega)⟩
  ·have e':s.g.el T:=by
    rcases e with e | e
    ·exact absurd e hT
    ·exact e
   obtain⟨a,b,c,d,f,q⟩:=h.ld T e';unfold Sys.lead;dsimp only;rw [if_neg hT,s.g.elect_E_ne k _ hT,s.g.elect_LL_ne k _ hT];exact⟨a,b,c,d,f,q.elect hne⟩
 ·have hT:¬T=s.tm k:=fun hh=>e (.inl hh);obtain⟨a,b⟩:=h.no T fun hh=>e (.inr hh);unfold Sys.lead;dsimp only;exact⟨by rw [s.g.elect_LL_ne k _ hT];exact a,fun j=>by rw [s.g.elect_ack k j _ hT];exact b j⟩
 ·unfold Sys.lead;dsimp only;by_cases hT:T=s.tm k
  ·subst hT;rw [s.g.elect_LL];by_cases hj:j=k
   ·subst hj;exact⟨by simp [Gh.elect],fun hh=>by omega⟩
   ·have e0:(s.g.elect (s.tm k) k (s.lg k)).ack j (s.tm k)=0:=by simp [Gh.elect,hj];exact (h.no _ hne).2 j
    rw [e0];exact⟨Nat.zero_le _,fun _=>rfl⟩
  ·rw [s.g.elect_LL_ne k _ hT,s.g.elect_ack k j _ hT];exact h.ac j T
end Go.Proofs.Ytapfhhmimkkhnaa
