/-
  Who leads, plainly.
-/
import Derived.Test.YtapfhhmimkkhnaaGreatCH
import Derived.Test.YtapfhhmimkkhnaaGreatM3bToCO
import Derived.Test.YtapfhhmimkkhnaaGreatQ3ToQD
namespace Go.Proofs.YtapfhhmimkkhnaaGreat
open Go.RowKit Go.Maps
set_option linter.unusedVariables false
set_option maxRecDepth 100000
def ltP (x y:Ld):Prop:=x.t<y.t∨(x.t=y.t∧x.n<y.n)
theorem lex_ext:∀ {a b:List Ld},a.Pairwise ltP→b.Pairwise ltP→(∀x,x∈a↔x∈b)→a=b
 | [],[],_,_,_=>rfl
 | [],y::r,_,_,h=>by have:=(h y).2 (by simp);simp at this
 | x::r,[],_,_,h=>by have:=(h x).1 (by simp);simp at this
 | x::r,y::s,ha,hb,h=>by
  rw [List.pairwise_cons] at ha hb;have hxy:x=y:=by
   rcases List.mem_cons.1 ((h x).1 (by simp)) with e | e
   ·exact e
   ·rcases List.mem_cons.1 ((h y).2 (by simp)) with e' | e'
    ·exact e'.symm
    ·have h1:=hb.1 x e;have h2:=ha.1 y e';unfold ltP at h1 h2;omega
  subst hxy;rw [lex_ext ha.2 hb.2 fun z=> ?_];have hz:=h z;rw [List.mem_cons,List.mem_cons] at hz;constructor
  ·intro hzr;rcases hz.1 (.inr hzr) with e | e
   ·subst e;have:=ha.1 z hzr;unfold ltP at this;omega
   ·exact e
  ·intro hzs;rcases hz.2 (.inr hzs) with e | e
   ·subst e;have:=hb.1 z hzs;unfold ltP at this;omega
   ·exact e
def ldOf (x:Nd):Ld:=⟨x.te,x.id⟩
def ldT (N:List Nd) (t:Int):Nat→List Ld
 | 0=> []
 | k+1=>ldT N t k++(if (N.getD k Nd.zero).ro=2∧(N.getD k Nd.zero).te=t then [ldOf (N.getD k Nd.zero)] else [])
def ldS (N:List Nd):Nat→List Ld
 | 0=> []
 | t+1=>ldS N t++ldT N ((t+1:Nat):Int) N.length
def ldI (N:List Nd):Nat→List Ld
 | 0=> []
 | k+1=>ldI N k++(if (N.getD k Nd.zero).ro=2 then [ldOf (N.getD k Nd.zero)] else [])
def ldR (ok:Bool) (N:List Nd):List Ld:=if ok then ldS N 1000 else []
theorem ldT_len (N:List Nd) (t:Int) (k:Nat):(ldT N t k).length≤k:=by
 induction k with
 | zero=>simp [ldT]
 | succ k ih=>simp only [ldT,List.length_append];split <;>simp <;>omega
theorem ldI_len (N:List Nd) (k:Nat):(ldI N k).length≤k:=by
 induction k with
 | zero=>simp [ldI]
 | succ k ih=>simp only [ldI,List.length_append];split <;>simp <;>omega
theorem ldS_len (N:List Nd) (t:Nat):(ldS N t).length≤t*N.length:=by
 induction t with
 | zero=>simp [ldS]
 | succ t ih=>
  simp only [ldS,List.length_append];have:=ldT_len N ((t+1:Nat):Int) N.length;rw [Nat.succ_mul];omega
theorem mem_ldT (N:List Nd) (t:Int) (k:Nat) (x:Ld):x∈ldT N t k↔∃i,i<k∧(N.getD i Nd.zero).ro=2∧(N.getD i Nd.zero).te=t∧x=ldOf (N.getD i Nd.zero):=by
 induction k with
 | zero=>simp [ldT]
 | succ k ih=>
  simp only [ldT,List.mem_append,ih];constructor
  ·rintro (⟨i,h1,h2⟩ | h)
   ·exact⟨i,by omega,h2⟩
   ·split at h
    ·rename_i hc;simp only [List.mem_singleton] at h;exact⟨k,by omega,hc.1,hc.2,h⟩
    ·simp at h
  ·rintro⟨i,h1,h2,h3,h4⟩;by_cases hik:i<k
   ·exact .inl ⟨i,hik,h2,h3,h4⟩
   ·obtain rfl:i=k:=by omega
    right;rw [if_pos ⟨h2,h3⟩];simp [h4]
theorem mem_ldI (N:List Nd) (k:Nat) (x:Ld):x∈ldI N k↔∃i,i<k∧(N.getD i Nd.zero).ro=2∧x=ldOf (N.getD i Nd.zero):=by
 induction k with
 | zero=>simp [ldI]
 | succ k ih=>
  simp only [ldI,List.mem_append,ih];constructor
  ·rintro (⟨i,h1,h2⟩ | h)
   ·exact⟨i,by omega,h2⟩
   ·split at h
    ·rename_i hc;simp only [List.mem_singleton] at h;exact⟨k,by omega,hc,h⟩
    ·simp at h
  ·rintro⟨i,h1,h2,h4⟩;by_cases hik:i<k
   ·exact .inl ⟨i,hik,h2,h4⟩
   ·obtain rfl:i=k:=by omega
    right;rw [if_pos h2];simp [h4]
theorem mem_ldS (N:List Nd) (t:Nat) (x:Ld):x∈ldS N t↔∃i,i<N.length∧(N.getD i Nd.zero).ro=2∧1≤(N.getD i Nd.zero).te∧(N.getD i Nd.zero).te≤(t:Int)∧x=ldOf (N.getD i Nd.zero):=by
 induction t with
 | zero=>
  simp only [ldS,List.not_mem_nil,false_iff];rintro⟨i,_,_,h1,h2,_⟩;omega
 | succ t ih=>
  simp only [ldS,List.mem_append,ih,mem_ldT];constructor
  ·rintro (⟨i,h1,h2,h3,h4,h5⟩ | ⟨i,h1,h2,h3,h4⟩)
   ·exact⟨i,h1,h2,h3,by omega,h5⟩
   ·exact⟨i,h1,h2,by omega,by omega,h4⟩
  ·rintro⟨i,h1,h2,h3,h4,h5⟩;by_cases hl:(N.getD i Nd.zero).te≤(t:Int)
   ·exact .inl ⟨i,h1,h2,h3,hl,h5⟩
   ·exact .inr ⟨i,h1,h2,by omega,h5⟩
theorem ldT_pw (N:List Nd) (t:Int) (hid:∀i,i<N.length→(N.getD i Nd.zero).id=(i:Int)) (k:Nat) (hk:k≤N.length):(ldT N t k).Pairwise ltP:=by
 induction k with
 | zero=>simp [ldT]
 | succ k ih=>
  simp only [ldT];refine List.pairwise_append.2 ⟨ih (by omega),by split <;>simp,fun x hx y hy=> ?_⟩;obtain⟨i,h1,h2,h3,h4⟩:=(mem_ldT N t k x).1 hx
  split at hy
  ·rename_i hc
   simp only [List.mem_singleton] at hy;subst hy;subst h4;have e1:=hid i (by omega);have e2:=hid k (by omega);unfold ltP ldOf;dsimp only;omega
  ·simp at hy
theorem ldS_pw (N:List Nd) (hid:∀i,i<N.length→(N.getD i Nd.zero).id=(i:Int)) (t:Nat):(ldS N t).Pairwise ltP:=by
 induction t with
 | zero=>simp [ldS]
 | succ t ih=>
  simp only [ldS];refine List.pairwise_append.2 ⟨ih,ldT_pw N _ hid _ (Nat.le_refl _),fun x hx y hy=> ?_⟩;obtain⟨i,h1,h2,h3,h4,h5⟩:=(mem_ldS N t x).1 hx;obtain⟨j,g1,g2,g3,g4⟩:=(mem_ldT N _ _ y).1 hy;subst h5;subst g4;unfold ltP ldOf;dsimp only;omega
theorem ldI_pw (N:List Nd) (hid:∀i,i<N.length→(N.getD i Nd.zero).id=(i:Int)) (k:Nat) (hk:k≤N.length):(ldI N k).Pairwise fun x y=>x.n≠y.n:=by
 induction k with
 | zero=>simp [ldI]
 | succ k ih=>
  simp only [ldI];refine List.pairwise_append.2 ⟨ih (by omega),by split <;>simp,fun x hx y hy=> ?_⟩;obtain⟨i,h1,h2,h4⟩:=(mem_ldI N k x).1 hx
  split at hy
  ·simp only [List.mem_singleton] at hy;subst hy;subst h4;have e1:=hid i (by omega);have e2:=hid k (by omega);unfold ldOf;dsimp only;omega
  ·simp at hy
theorem sorted_eq (N:List Nd) (hid:∀i,i<N.length→(N.getD i Nd.zero).id=(i:Int)) (hte:∀i,i<N.length→(N.getD i Nd.zero).ro=2→1≤(N.getD i Nd.zero).te∧(N.getD i Nd.zero).te≤1000) (d:List Ld) (hp:d.Perm (ldI N N.length)) (hs:∀i j (hi:i<d.length) (hj:j<d.length),i<j→¬ltP d[j] d[i]):d=ldS N 1000:=by
 have hne:d.Pairwise fun x y=>x.n≠y.n:=(hp.pairwise_iff (fun {x y} h e=>h e.symm)).2 (ldI_pw N hid _ (Nat.le_refl _));refine lex_ext ?_ (ldS_pw N hid 1000) fun x=> ?_
 ·rw [List.pairwise_iff_getElem] at hne ⊢;intro i j hi hj hij;have h1:=hne i j hi hj hij;have h2:=hs i j hi hj hij;unfold ltP at h2 ⊢;omega
 ·rw [hp.mem_iff,mem_ldI,mem_ldS];constructor
  ·rintro⟨i,h1,h2,h3⟩;have:=hte i h1 h2;exact⟨i,h1,h2,this.1,by omega,h3⟩
  ·rintro⟨i,h1,h2,_,_,h3⟩;exact⟨i,h1,h2,h3⟩
theorem goodN_lead1 {id pe te vo co:Int} {log:List En} {vs mt:List Int} (h:zm_ id pe te vo co 2 log vs mt=true):1≤te:=by
 rw [zK_] at h;simp only [Bool.and_eq_true] at h;have h':=h.2.2.2.2.2.2.2;unfold zF_ at h';simp [ownT] at h';omega
theorem goodC_ld {N:List Nv} {M:List Ms} {L:List Ld} (h:zV_ (N.map Nv.n) M L=true):1≤N.length∧N.length≤7∧(∀i,i<(N.map Nv.n).length→((N.map Nv.n).getD i Nd.zero).id=(i:Int))∧∀i,i<(N.map Nv.n).length→((N.map Nv.n).getD i Nd.zero).ro=2→1≤((N.map Nv.n).getD i Nd.zero).te∧((N.map Nv.n).getD i Nd.zero).te≤1000:=by
 unfold zV_ at h;simp only [List.length_map,Bool.and_eq_true,decide_eq_true_eq] at h;have hn:=of_decide_eq_true h.2.1;refine⟨h.1.1,h.1.2,fun i hi=> ?_,fun i hi hr=> ?_⟩
 ·simp only [List.length_map] at hi;have:=hn i (by simpa using hi);simp only [ndOk,gNd,List.getElem_map,Bool.and_eq_true,decide_eq_true_eq] at this;rw [hiT_at N i hi];exact this.2.1
 ·simp only [List.length_map] at hi;have:=hn i (by simpa using hi);simp only [ndOk,gNd,List.getElem_map,Bool.and_eq_true,decide_eq_true_eq] at this;rw [hiT_at N i hi] at hr ⊢;have hg:=this.1;have h2:=goodN_te hg;rw [hr] at hg;exact⟨goodN_lead1 hg,h2⟩
theorem wpList_append_ld (w:World) {ops:Array Oper} {rest:List Oper} {o:Oper} {a:Act} {Q:Exit→Act→World→Prop} (hgd:o.guard=none) (s y:Operand)
  (ho:o.op= .call ⟨.builtin .append,#[s,y],#[28,28]⟩) (hty:o.type=28)
  (base:Nat) (v:Value) (n:Nat) (zs:List Ld) (hs:a.eval s=v) (hown:w.ownsRow base 34 2 v n (zQ_ zs))
  (b:Nat) (x:Ld) (hx:a.eval y= .slice (some ⟨b,0,none⟩) 1 1) (hI:Box w b [x.t,x.n]) (hn:n+1≤2000000) (hbase:base≤w.heap.size)
  (h:∀v' w',w'.ownsRow base 34 2 v' (n+1) (zQ_ (zs++ [x]))→w.grownBy w' v.ownBlock→wpList Tryz.prog ops Q rest (a.put o.dst v') w'):wpList Tryz.prog ops Q (o::rest) a w:=by
 obtain⟨i0,hi,hz0,hzs,hzb⟩:=info_parts Tryz.info34;refine wpList_append_own _ hgd s y 28 ho base 34 i0 (.agg #[(0:Int),(0:Int)]) 2 16 Tryz.underlying28 hi hz0 hzs hzb rfl (by decide) v n (zQ_ zs) hs hown ⟨b,0,none⟩ 1 1 (zQ_ [x]) hx rfl ?_ ?_ (by unfold maxLen;omega) (by omega) hbase fun v' w' h1 h2 _=>h v' w' (by rw [flatL_append];exact h1) h2
 ·intro j u hj;rw [show (⟨b,0,none⟩:Addr).add j=⟨b,j,none⟩ from by simp [Addr.add];omega];exact hI.2.1 j u hj
 ·intro u hu;simp only [zQ_,List.mem_cons,List.not_mem_nil,or_false] at hu;rcases hu with rfl | rfl <;>rfl
end Go.Proofs.YtapfhhmimkkhnaaGreat
