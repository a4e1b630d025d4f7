/-
  A cluster of one's own, changed: a node put, messages sent, one taken out, a lead noted.
  Rows of nodes, of messages and of leads appended to a row of one's own; slices of rows.
  An answer that came: onTold.
  The four handlers, in one form.
  Messages without entries, as they lie in memory.
  Messages sent: impl's sending.
  A node put in its place, who leads noted: impl's withNode.
  A node put in its place, who leads noted: impl's withNode.
  What a message leaves of a node in bounds; committing, whoever it is.
  A message handled: impl.HandleMsg.
-/
import Derived.Test.YtapfhhmimkkhnaaM3bToCO
import Derived.Test.YtapfhhmimkkhnaaRS1ToRS2
import Derived.Test.YtapfhhmimkkhnaaVIToSP
import Derived.Lib.AppendZeros
import Derived.Test.YtapfhhmimkkhnaaK1ToKC3
import Derived.Laws.EntriesVeiled
import Derived.Deep.Cut
import Derived.Deep.RegionHeld3
import Derived.Test.YtapfhhmimkkhnaaRS3
import Derived.Test.YtapfhhmimkkhnaaN1ToA3
namespace Go.Proofs.Ytapfhhmimkkhnaa
open Go.RowKit Go.Maps
set_option linter.unusedVariables false
set_option maxRecDepth 100000
theorem zm_ {w w':World} {v:Value} (h:w.grownBy w' v.ownBlock):Chg (fun b=>v.ownBlock=some b) w w':=
 ⟨h.os,h.tape,h.output,h.size,fun k hk hs=>h.block k hk fun e=>hs e.symm⟩
theorem zz_.append {α:Type} {P:World→Nat→α→Prop} {B:α→Nat→Prop} {w:World} {lo hi hi':Nat} {l m:List α} (h:zz_ P B w lo hi l) (k:zz_ P B w hi hi' m):zz_ P B w lo hi' (l++m):=by
 have e1:=h.1;have e2:=k.1;refine⟨Nat.le_trans e1 e2,fun i hi=> ?_,fun i j h1 h2 hij b=> ?_⟩
 ·by_cases hil:i<l.length
  ·simp only [List.getElem_append_left hil];obtain⟨⟨c,hc,hp⟩,hb⟩:=h.2.1 i hil;exact⟨⟨c,hc,hp⟩,fun b q=>⟨(hb b q).1,Nat.lt_of_lt_of_le (hb b q).2 e2⟩⟩
  ·have him:i-l.length<m.length:=by simp at hi;omega
   simp only [List.getElem_append_right (Nat.le_of_not_lt hil)];obtain⟨⟨c,hc,hp⟩,hb⟩:=k.2.1 _ him;exact⟨⟨c,Nat.le_trans e1 hc,hp⟩,fun b q=>⟨Nat.le_trans e1 (hb b q).1,(hb b q).2⟩⟩
 ·simp only [List.length_append] at h1 h2;by_cases hil:i<l.length
  ·by_cases hjl:j<l.length
   ·simp only [List.getElem_append_left hil,List.getElem_append_left hjl];exact h.2.2 i j hil hjl hij b
   ·have hjm:j-l.length<m.length:=by omega
    simp only [List.getElem_append_left hil,List.getElem_append_right (Nat.le_of_not_lt hjl)];intro q1 q2;have:=((h.2.1 i hil).2 b q1).2;have:=((k.2.1 _ hjm).2 b q2).1;omega
  ·have him:i-l.length<m.length:=by omega
   by_cases hjl:j<l.length
   ·simp only [List.getElem_append_left hjl,List.getElem_append_right (Nat.le_of_not_lt hil)];intro q1 q2;have:=((h.2.1 j hjl).2 b q2).2;have:=((k.2.1 _ him).2 b q1).1;omega
   ·have hjm:j-l.length<m.length:=by omega
    simp only [List.getElem_append_right (Nat.le_of_not_lt hil),List.getElem_append_right (Nat.le_of_not_lt hjl)];exact k.2.2 _ _ him hjm (by omega) b
theorem zz_.bare {w:World} {lo hi:Nat} {A:List Mv} (h:lo≤hi) (ha:∀a∈A,a.ea=none∧a.ec=0∧a.q.es= []):zz_ PM BM w lo hi A:=by
 have f:∀i (hi:i<A.length),(Value.slice A[i].ea A[i].q.es.length A[i].ec)= .slice none 0 0∧A[i].q.es= []:=fun i hi=>by
  obtain⟨a,b,c⟩:=ha _ (List.getElem_mem hi);exact⟨by rw [a,b,c];rfl,c⟩
 refine⟨h,fun i hi'=>⟨⟨lo,Nat.le_refl _,?_⟩,fun b hb=> ?_⟩,fun i j h1 h2 hij b hb=> ?_⟩
 ·unfold PM;rw [(f i hi').1,(f i hi').2];exact World.ownsRow_nil _ _ _ _
 ·unfold BM at hb;rw [(f i hi').1] at hb;cases hb
 ·unfold BM at hb;rw [(f i h1).1] at hb;cases hb
theorem OwnC.hiN {w:World} {lo hi hi':Nat} {vn vm vl:Value} {N:List Nv} {M:List Mv} {L:List Ld} (h:OwnC w lo hi vn vm vl N M L) (hh:hi≤hi'):OwnC w lo hi' vn vm vl N M L:=
 ⟨h.n,h.m,h.l,h.cn.hi hh,h.cm.hi hh,h.ap,fun b hb=>Nat.lt_of_lt_of_le (h.bn b hb) hh,fun b hb=>Nat.lt_of_lt_of_le (h.bm b hb) hh,fun b hb=>Nat.lt_of_lt_of_le (h.bl b hb) hh⟩
theorem OwnC.loN {w:World} {lo lo' hi:Nat} {vn vm vl:Value} {N:List Nv} {M:List Mv} {L:List Ld} (h:OwnC w lo hi vn vm vl N M L) (hh:lo'≤lo):OwnC w lo' hi vn vm vl N M L:=
 ⟨zg_ h.n hh,zg_ h.m hh,zg_ h.l hh,h.cn.lo hh,h.cm.lo hh,h.ap,h.bn,h.bm,h.bl⟩
theorem OwnC.chains {W W':World} {lo hi:Nat} {vn vm vl:Value} {N:List Nv} {M:List Mv} {L:List Ld} (h:OwnC W lo hi vn vm vl N M L) {S:Nat→Prop} (hC:Chg S W W') (hS:∀b,S b→vn.ownBlock=some b∨vm.ownBlock=some b∨vl.ownBlock=some b∨hi≤b):zz_ PN BN W' lo hi N∧zz_ PM BM W' lo hi M:=by
 refine⟨h.cn.mapI fun i hi c hp hb=>OwnN.chg hp hC fun b h1 h2=> ?_,h.cm.mapI fun i hi c hp hb=>hC.owns hp fun b h1 h2=> ?_⟩
 ·rcases hS b h2 with q | q | q | q
  ·exact PN.row_ne hp h.n (by decide) (by decide) b h1 q
  ·exact PN.row_ne hp h.m (by decide) (by decide) b h1 q
  ·exact PN.row_ne hp h.l (by decide) (by decide) b h1 q
  ·have:=(hb b h1).2;omega
 ·rcases hS b h2 with q | q | q | q
  ·exact PM.row_ne hp h.n (by decide) b h1 q
  ·exact PM.row_ne hp h.m (by decide) b h1 q
  ·exact PM.row_ne hp h.l (by decide) b h1 q
  ·have:=(hb b h1).2;omega
theorem OwnC.setN {W W':World} {lo hi hi':Nat} {vn vm vl:Value} {N:List Nv} {M:List Mv} {L:List Ld} (h:OwnC W lo hi vn vm vl N M L) (j:Nat) (x:Nv) (ho:W'.ownsRow lo 26 9 vn N.length (zH_ (N.set j x))) (hC:Chg (fun b=>vn.ownBlock=some b∨hi≤b) W W') (hx:PN W' hi x) (hlt:∀b,BN x b→b<hi') (hh:hi≤hi'):OwnC W' lo hi' vn vm vl (N.set j x) M L:=by
 obtain⟨c1,c2⟩:=h.chains hC fun b q=>q.elim .inl fun q=> .inr (.inr (.inr q));refine⟨by rw [List.length_set];exact ho,hC.owns h.m fun b hb q=>q.elim (zi_ h.m h.n (by decide) b hb) fun q=>by have:=h.bm b hb;omega,hC.owns h.l fun b hb q=>q.elim (zi_ h.l h.n (by decide) b hb) fun q=>by have:=h.bl b hb;omega,?_,c2.hi hh,?_,fun b hb=>Nat.lt_of_lt_of_le (h.bn b hb) hh,fun b hb=>Nat.lt_of_lt_of_le (h.bm b hb) hh,fun b hb=>Nat.lt_of_lt_of_le (h.bl b hb) hh⟩
 ·refine (c1.hi hh).put j x ⟨hi,h.lohi,hx⟩ (fun b hb=>⟨Nat.le_trans h.lohi (PN.in hx b hb).1,hlt b hb⟩) fun i hi' hij b h1 h2=> ?_;have:=(PN.in hx b h1).1;have:=((h.cn.2.1 i hi').2 b h2).2;omega
 ·intro i k h1 h2 b;simp only [List.length_set] at h1;by_cases hij:j=i
  ·subst hij;simp only [List.getElem_set_self];intro q1 q2;have:=(PN.in hx b q1).1;have:=((h.cm.2.1 k h2).2 b q2).2;omega
  ·simp only [List.getElem_set_ne hij];exact h.ap i k h1 h2 b
theorem OwnC.push {W W':World} {lo hi hi':Nat} {vn vm vl vm':Value} {N:List Nv} {M A:List Mv} {L:List Ld} (h:OwnC W lo hi vn vm vl N M L) (ho:W'.ownsRow lo 38 9 vm' (M++A).length (zu_ (M++A))) (hC:Chg (fun b=>vm.ownBlock=some b∨hi≤b) W W') (hv:∀b,vm'.ownBlock=some b→b<hi') (hh:hi≤hi') (hA:zz_ PM BM W' hi hi' A):OwnC W' lo hi' vn vm' vl N (M++A) L:=by
 obtain⟨c1,c2⟩:=h.chains hC fun b q=>q.elim (fun q=> .inr (.inl q)) fun q=> .inr (.inr (.inr q));refine⟨hC.owns h.n fun b hb q=>q.elim (zi_ h.n h.m (by decide) b hb) fun q=>by have:=h.bn b hb;omega,ho,hC.owns h.l fun b hb q=>q.elim (zi_ h.l h.m (by decide) b hb) fun q=>by have:=h.bl b hb;omega,c1.hi hh,c2.append hA,?_,fun b hb=>Nat.lt_of_lt_of_le (h.bn b hb) hh,hv,fun b hb=>Nat.lt_of_lt_of_le (h.bl b hb) hh⟩;intro i k h1 h2 b;by_cases hkl:k<M.length
 ·simp only [List.getElem_append_left hkl];exact h.ap i k h1 hkl b
 ·have hkm:k-M.length<A.length:=by simp at h2;omega
  simp only [List.getElem_append_right (Nat.le_of_not_lt hkl)];intro q1 q2;have:=((h.cn.2.1 i h1).2 b q1).2;have:=((hA.2.1 _ hkm).2 b q2).1;omega
theorem OwnC.out {W W':World} {lo hi hi':Nat} {vn vm vl vm':Value} {N:List Nv} {M:List Mv} {L:List Ld} (h:OwnC W lo hi vn vm vl N M L) (k:Nat) (ho:W'.ownsRow lo 38 9 vm' (M.eraseIdx k).length (zu_ (M.eraseIdx k))) (hC:Chg (fun b=>vm.ownBlock=some b∨hi≤b) W W') (hv:∀b,vm'.ownBlock=some b→b<hi') (hh:hi≤hi'):OwnC W' lo hi' vn vm' vl N (M.eraseIdx k) L:=by
 obtain⟨c1,c2⟩:=h.chains hC fun b q=>q.elim (fun q=> .inr (.inl q)) fun q=> .inr (.inr (.inr q));refine⟨hC.owns h.n fun b hb q=>q.elim (zi_ h.n h.m (by decide) b hb) fun q=>by have:=h.bn b hb;omega,ho,hC.owns h.l fun b hb q=>q.elim (zi_ h.l h.m (by decide) b hb) fun q=>by have:=h.bl b hb;omega,c1.hi hh,(c2.out k).hi hh,?_,fun b hb=>Nat.lt_of_lt_of_le (h.bn b hb) hh,hv,fun b hb=>Nat.lt_of_lt_of_le (h.bl b hb) hh⟩;intro i j h1 h2 b;have hj:∃q,∃hq:q<M.length,(M.eraseIdx k)[j]=M[q]:=by
  have hm:(M.eraseIdx k)[j]∈M:=List.mem_of_mem_eraseIdx (List.getElem_mem h2);obtain⟨q,hq,e⟩:=List.getElem_of_mem hm;exact⟨q,hq,e.symm⟩
 obtain⟨q,hq,e⟩:=hj;rw [e];exact h.ap i q h1 hq b
theorem OwnC.lead {W W':World} {lo hi hi':Nat} {vn vm vl vl':Value} {N:List Nv} {M:List Mv} {L L':List Ld} (h:OwnC W lo hi vn vm vl N M L) (ho:W'.ownsRow lo 116 2 vl' L'.length (flatL L')) (hC:Chg (fun b=>vl.ownBlock=some b∨hi≤b) W W') (hv:∀b,vl'.ownBlock=some b→b<hi') (hh:hi≤hi'):OwnC W' lo hi' vn vm vl' N M L':=by
 obtain⟨c1,c2⟩:=h.chains hC fun b q=>q.elim (fun q=> .inr (.inr (.inl q))) fun q=> .inr (.inr (.inr q));exact⟨hC.owns h.n fun b hb q=>q.elim (zi_ h.n h.l (by decide) b hb) fun q=>by have:=h.bn b hb;omega,hC.owns h.m fun b hb q=>q.elim (zi_ h.m h.l (by decide) b hb) fun q=>by have:=h.bm b hb;omega,ho,c1.hi hh,c2.hi hh,h.ap,fun b hb=>Nat.lt_of_lt_of_le (h.bn b hb) hh,fun b hb=>Nat.lt_of_lt_of_le (h.bm b hb) hh,hv⟩
theorem OwnC.of {w:World} {lo mid hi:Nat} {vn vm vl:Value} {N:List Nv} {M:List Mv} {L:List Ld} (n:w.ownsRow lo 26 9 vn N.length (zH_ N)) (m:w.ownsRow lo 38 9 vm M.length (zu_ M)) (l:w.ownsRow lo 116 2 vl L.length (flatL L)) (cn:zz_ PN BN w lo mid N) (cm:zz_ PM BM w mid hi M) (bn:∀b,vn.ownBlock=some b→b<hi) (bm:∀b,vm.ownBlock=some b→b<hi) (bl:∀b,vl.ownBlock=some b→b<hi):OwnC w lo hi vn vm vl N M L:=
 ⟨n,m,l,cn.hi cm.ends,cm.lo cn.ends,fun i j h1 h2 b q1 q2=>by have:=((cn.2.1 i h1).2 b q1).2;have:=((cm.2.1 j h2).2 b q2).1;omega,bn,bm,bl⟩
theorem Chg.nextC {S S':Nat→Prop} {w a b:World} (h:Chg S w a) (h':Chg S' a b) (hs:∀k,S' k→S k∨w.heap.size≤k):Chg S w b:=
 ⟨h'.os.trans h.os,h'.tape.trans h.tape,h'.output.trans h.output,Nat.le_trans h.size h'.size,fun k hk hn=>(h'.block k (Nat.lt_of_lt_of_le hk h.size) (fun e=>(hs k e).elim hn (fun q=>by omega))).trans (h.block k hk hn)⟩
def zP_ (w:World) (size:Nat) (v:Value) (n:Nat) (xs:List Value):Prop:=
 xs.length=n*size∧∃a cap,v= .slice a n cap∧((a=none∧n=0)∨∃b off,a=some ⟨b,off,none⟩∧b<w.heap.size∧∀j u,xs[j]? =some u→w.cell? ⟨b,off+j,none⟩=some u)
theorem zP_.below {w w':World} {size n:Nat} {v:Value} {xs:List Value} (h:zP_ w size v n xs) (hb:Below w.heap.size w w'):zP_ w' size v n xs:=by
 obtain⟨h1,a,cap,h2,h3⟩:=h;refine⟨h1,a,cap,h2,?_⟩;rcases h3 with h3 | ⟨b,off,e,hb2,hc⟩
 ·exact .inl h3
 ·exact .inr ⟨b,off,e,Nat.lt_of_lt_of_le hb2 hb.size,fun j u hj=>(hb.cell (p:=⟨b,off+j,none⟩) hb2).trans (hc j u hj)⟩
theorem zP_.own {w:World} {base:Nat} {e:TypeId} {size n:Nat} {v:Value} {xs:List Value} (h:w.ownsRow base e size v n xs):zP_ w size v n xs:=by
 have h':=h;rcases h.2 with⟨rfl,h0⟩ | ⟨g,cap,cur,rfl,hbg,hh,hcap,hm,hsz,htk⟩
 ·exact⟨h.1,none,0,by rw [h0],.inl ⟨rfl,h0⟩⟩
 ·refine⟨h.1,_,cap,rfl,.inr ⟨g,0,rfl,(Array.getElem?_eq_some_iff.1 hh).1,fun j u hj=> ?_⟩⟩;rw [Nat.zero_add,h'.cellAt j (by have:=(List.getElem?_eq_some_iff.1 hj).1;have:=h.1;omega)];exact hj
theorem yh_ {w:World} {base:Nat} {e:TypeId} {size n:Nat} {a:Option Addr} {cap:Nat} {xs:List Value} (h:w.ownsRow base e size (.slice a n cap) n xs) (k:Nat) (hk:k≤n):w.ownsRow base e size (.slice a k cap) k (xs.take (k*size)):=by
 obtain⟨h1,h2⟩:=h;have hks:k*size≤n*size:=Nat.mul_le_mul_right _ hk;refine⟨by rw [List.length_take];omega,?_⟩;rcases h2 with⟨h2,h0⟩ | ⟨g,cap',cur,hv,hbg,hh,hcap,hm,hsz,htk⟩
 ·simp only [Value.slice.injEq] at h2;obtain⟨rfl,_,rfl⟩:=h2;exact .inl ⟨by rw [show k=0 from by omega],by omega⟩
 ·simp only [Value.slice.injEq] at hv;obtain⟨rfl,_,rfl⟩:=hv;exact .inr ⟨g,cap,cur,rfl,hbg,hh,by omega,hm,hsz,by rw [←htk,List.take_take,Nat.min_eq_left hks]⟩
theorem yi_ (l:List Mv) (k:Nat):(zu_ l).take (k*9)=zu_ (l.take k):=by
 induction l generalizing k with
 | nil=>simp [zu_]
 | cons x r ih=>
  cases k with
  | zero=>simp [zu_]
  | succ k=>rw [show (k+1)*9=k*9+1+1+1+1+1+1+1+1+1 from by omega];simp only [zu_,List.take_succ_cons,ih]
theorem flatM_drop (l:List Mv) (k:Nat):(zu_ l).drop (k*9)=zu_ (l.drop k):=by
 induction l generalizing k with
 | nil=>simp [zu_]
 | cons x r ih=>
  cases k with
  | zero=>simp [zu_]
  | succ k=>rw [show (k+1)*9=k*9+1+1+1+1+1+1+1+1+1 from by omega];simp only [zu_,List.drop_succ_cons,ih]
theorem flatN_one (l:List Nv):∀u∈zH_ l,u.oneCell'=true:=by
 induction l with
 | nil=>intro u hu;simp [zH_] at hu
 | cons x r ih=>
  intro u hu;simp only [zH_,List.mem_cons] at hu;rcases hu with rfl | rfl | rfl | rfl | rfl | rfl | rfl | rfl | rfl | hu
  all_goals first | rfl | exact ih u hu
theorem yb_ (l:List Mv):∀u∈zu_ l,u.oneCell'=true:=by
 induction l with
 | nil=>intro u hu;simp [zu_] at hu
 | cons x r ih=>
  intro u hu;simp only [zu_,List.mem_cons] at hu;rcases hu with rfl | rfl | rfl | rfl | rfl | rfl | rfl | rfl | rfl | hu
  all_goals first | rfl | exact ih u hu
theorem flatL_one (l:List Ld):∀u∈flatL l,u.oneCell'=true:=by
 induction l with
 | nil=>intro u hu;simp [flatL] at hu
 | cons x r ih=>
  intro u hu;simp only [flatL,List.mem_cons] at hu;rcases hu with rfl | rfl | hu
  all_goals first | rfl | exact ih u hu
theorem app_42 (w:World) (base:Nat) (v:Value) (n:Nat) (zs:List Value) (hown:w.ownsRow base 26 9 v n zs) (xv:Value) (m:Nat) (xs:List Value) (hI:zP_ w 9 xv m xs) (h1:∀u∈xs,u.oneCell'=true) (hn:n+m≤2000000) (hbase:base≤w.heap.size):
  ∃v' w',(Builtin.append_ #[57,57] 57 #[v,xv]).run Try.prog w= .ok v' w'∧w'.ownsRow base 26 9 v' (n+m) (zs++xs)∧w.grownBy w' v.ownBlock∧(v'.ownBlock=v.ownBlock∨v'.ownBlock=some w.heap.size):=by
 obtain⟨i0,hi,hz0,hzs,hzb⟩:=info_parts Try.info26;obtain⟨hl,a,cap,rfl,h⟩:=hI;rcases h with⟨rfl,rfl⟩ | ⟨b,off,rfl,hb,hc⟩
 ·obtain rfl:xs= []:=List.length_eq_zero_iff.1 (by omega);refine⟨v,w,?_,by simpa using hown,⟨rfl,rfl,rfl,Nat.le_refl _,fun _ _ _=>rfl⟩,.inl rfl⟩;rcases hown.2 with⟨rfl,h0⟩ | ⟨g,cp,cur,rfl,hbase,hb,h1,h2,h3,h4⟩
  ·simp [Builtin.append_,run_underlying Try.underlying57,Builtin.lenOf,Builtin.firstCells,Try.sizeOf26]
  ·simp [Builtin.append_,run_underlying Try.underlying57,Builtin.lenOf,Builtin.firstCells,Try.sizeOf26,h1,storeCells]
 ·obtain⟨v',w',r,o,g,_,q⟩:=run_append_own_at (P:=Try.prog) w base 57 57 26 i0 (.agg zN) 9 120 Try.underlying57 hi hz0 hzs hzb rfl (by decide) v n zs hown ⟨b,off,none⟩ m cap xs hl (fun j u hj=>by rw [show (⟨b,off,none⟩:Addr).add j=⟨b,off+j,none⟩ from by simp [Addr.add]];exact hc j u hj) h1 (by unfold maxLen;omega) (by omega) hbase;exact⟨v',w',r,o,g,q⟩
theorem wp_app_42 (w:World) {o:Oper} {a:Act} {K:Act→World→Prop} {Q:Exit→Act→World→Prop} (s x:Operand)
  (ho:o.op= .call ⟨.builtin .append,#[s,x],#[57,57]⟩) (hty:o.type=57)
  (base:Nat) (v:Value) (n:Nat) (zs:List Value) (hs:a.eval s=v) (hown:w.ownsRow base 26 9 v n zs)
  (xv:Value) (m:Nat) (xs:List Value) (hx:a.eval x=xv) (hI:zP_ w 9 xv m xs) (h1:∀u∈xs,u.oneCell'=true) (hn:n+m≤2000000) (hbase:base≤w.heap.size)
  (h:∀v' w',w'.ownsRow base 26 9 v' (n+m) (zs++xs)→w.grownBy w' v.ownBlock→(v'.ownBlock=v.ownBlock∨v'.ownBlock=some w.heap.size)→K (a.put o.dst v') w'):o.wp Try.prog a w K Q:=by
 obtain⟨v',w',r,q1,q2,q3⟩:=app_42 w base v n zs hown xv m xs hI h1 hn hbase;unfold Oper.wp;simp [execOp,ho,resolve,invoke,builtin,hs,hx,hty,r,Result.andThen];exact h v' w' q1 q2 q3
theorem wpList_app_42 (w:World) {ops:Array Oper} {rest:List Oper} {o:Oper} {a:Act} {Q:Exit→Act→World→Prop} (hgd:o.guard=none) (s x:Operand)
  (ho:o.op= .call ⟨.builtin .append,#[s,x],#[57,57]⟩) (hty:o.type=57)
  (base:Nat) (v:Value) (n:Nat) (zs:List Value) (hs:a.eval s=v) (hown:w.ownsRow base 26 9 v n zs)
  (xv:Value) (m:Nat) (xs:List Value) (hx:a.eval x=xv) (hI:zP_ w 9 xv m xs) (h1:∀u∈xs,u.oneCell'=true) (hn:n+m≤2000000) (hbase:base≤w.heap.size)
  (h:∀v' w',w'.ownsRow base 26 9 v' (n+m) (zs++xs)→w.grownBy w' v.ownBlock→(v'.ownBlock=v.ownBlock∨v'.ownBlock=some w.heap.size)→wpList Try.prog ops Q rest (a.put o.dst v') w'):wpList Try.prog ops Q (o::rest) a w:=
 wpList_plain hgd fun _ hK=>wp_app_42 w s x ho hty base v n zs hs hown xv m xs hx hI h1 hn hbase fun v' w' h2 h3 h4=>hK _ _ (h v' w' h2 h3 h4)
theorem app_80 (w:World) (base:Nat) (v:Value) (n:Nat) (zs:List Value) (hown:w.ownsRow base 38 9 v n zs) (xv:Value) (m:Nat) (xs:List Value) (hI:zP_ w 9 xv m xs) (h1:∀u∈xs,u.oneCell'=true) (hn:n+m≤2000000) (hbase:base≤w.heap.size):
  ∃v' w',(Builtin.append_ #[42,42] 42 #[v,xv]).run Try.prog w= .ok v' w'∧w'.ownsRow base 38 9 v' (n+m) (zs++xs)∧w.grownBy w' v.ownBlock∧(v'.ownBlock=v.ownBlock∨v'.ownBlock=some w.heap.size):=by
 obtain⟨i0,hi,hz0,hzs,hzb⟩:=info_parts Try.info38;obtain⟨hl,a,cap,rfl,h⟩:=hI;rcases h with⟨rfl,rfl⟩ | ⟨b,off,rfl,hb,hc⟩
 ·obtain rfl:xs= []:=List.length_eq_zero_iff.1 (by omega);refine⟨v,w,?_,by simpa using hown,⟨rfl,rfl,rfl,Nat.le_refl _,fun _ _ _=>rfl⟩,.inl rfl⟩;rcases hown.2 with⟨rfl,h0⟩ | ⟨g,cp,cur,rfl,hbase,hb,h1,h2,h3,h4⟩
  ·simp [Builtin.append_,run_underlying Try.underlying42,Builtin.lenOf,Builtin.firstCells,Try.sizeOf38]
  ·simp [Builtin.append_,run_underlying Try.underlying42,Builtin.lenOf,Builtin.firstCells,Try.sizeOf38,h1,storeCells]
 ·obtain⟨v',w',r,o,g,_,q⟩:=run_append_own_at (P:=Try.prog) w base 42 42 38 i0 (.agg zM) 9 88 Try.underlying42 hi hz0 hzs hzb rfl (by decide) v n zs hown ⟨b,off,none⟩ m cap xs hl (fun j u hj=>by rw [show (⟨b,off,none⟩:Addr).add j=⟨b,off+j,none⟩ from by simp [Addr.add]];exact hc j u hj) h1 (by unfold maxLen;omega) (by omega) hbase;exact⟨v',w',r,o,g,q⟩
theorem zL_ (w:World) {o:Oper} {a:Act} {K:Act→World→Prop} {Q:Exit→Act→World→Prop} (s x:Operand)
  (ho:o.op= .call ⟨.builtin .append,#[s,x],#[42,42]⟩) (hty:o.type=42)
  (base:Nat) (v:Value) (n:Nat) (zs:List Value) (hs:a.eval s=v) (hown:w.ownsRow base 38 9 v n zs)
  (xv:Value) (m:Nat) (xs:List Value) (hx:a.eval x=xv) (hI:zP_ w 9 xv m xs) (h1:∀u∈xs,u.oneCell'=true) (hn:n+m≤2000000) (hbase:base≤w.heap.size)
  (h:∀v' w',w'.ownsRow base 38 9 v' (n+m) (zs++xs)→w.grownBy w' v.ownBlock→(v'.ownBlock=v.ownBlock∨v'.ownBlock=some w.heap.size)→K (a.put o.dst v') w'):o.wp Try.prog a w K Q:=by
 obtain⟨v',w',r,q1,q2,q3⟩:=app_80 w base v n zs hown xv m xs hI h1 hn hbase;unfold Oper.wp;simp [execOp,ho,resolve,invoke,builtin,hs,hx,hty,r,Result.andThen];exact h v' w' q1 q2 q3
theorem wpList_app_80 (w:World) {ops:Array Oper} {rest:List Oper} {o:Oper} {a:Act} {Q:Exit→Act→World→Prop} (hgd:o.guard=none) (s x:Operand)
  (ho:o.op= .call ⟨.builtin .append,#[s,x],#[42,42]⟩) (hty:o.type=42)
  (base:Nat) (v:Value) (n:Nat) (zs:List Value) (hs:a.eval s=v) (hown:w.ownsRow base 38 9 v n zs)
  (xv:Value) (m:Nat) (xs:List Value) (hx:a.eval x=xv) (hI:zP_ w 9 xv m xs) (h1:∀u∈xs,u.oneCell'=true) (hn:n+m≤2000000) (hbase:base≤w.heap.size)
  (h:∀v' w',w'.ownsRow base 38 9 v' (n+m) (zs++xs)→w.grownBy w' v.ownBlock→(v'.ownBlock=v.ownBlock∨v'.ownBlock=some w.heap.size)→wpList Try.prog ops Q rest (a.put o.dst v') w'):wpList Try.prog ops Q (o::rest) a w:=
 wpList_plain hgd fun _ hK=>zL_ w s x ho hty base v n zs hs hown xv m xs hx hI h1 hn hbase fun v' w' h2 h3 h4=>hK _ _ (h v' w' h2 h3 h4)
theorem app_34 (w:World) (base:Nat) (v:Value) (n:Nat) (zs:List Value) (hown:w.ownsRow base 116 2 v n zs) (xv:Value) (m:Nat) (xs:List Value) (hI:zP_ w 2 xv m xs) (h1:∀u∈xs,u.oneCell'=true) (hn:n+m≤2000000) (hbase:base≤w.heap.size):
  ∃v' w',(Builtin.append_ #[58,58] 58 #[v,xv]).run Try.prog w= .ok v' w'∧w'.ownsRow base 116 2 v' (n+m) (zs++xs)∧w.grownBy w' v.ownBlock∧(v'.ownBlock=v.ownBlock∨v'.ownBlock=some w.heap.size):=by
 obtain⟨i0,hi,hz0,hzs,hzb⟩:=info_parts Try.info116;obtain⟨hl,a,cap,rfl,h⟩:=hI;rcases h with⟨rfl,rfl⟩ | ⟨b,off,rfl,hb,hc⟩
 ·obtain rfl:xs= []:=List.length_eq_zero_iff.1 (by omega);refine⟨v,w,?_,by simpa using hown,⟨rfl,rfl,rfl,Nat.le_refl _,fun _ _ _=>rfl⟩,.inl rfl⟩;rcases hown.2 with⟨rfl,h0⟩ | ⟨g,cp,cur,rfl,hbase,hb,h1,h2,h3,h4⟩
  ·simp [Builtin.append_,run_underlying Try.underlying58,Builtin.lenOf,Builtin.firstCells,Try.sizeOf116]
  ·simp [Builtin.append_,run_underlying Try.underlying58,Builtin.lenOf,Builtin.firstCells,Try.sizeOf116,h1,storeCells]
 ·obtain⟨v',w',r,o,g,_,q⟩:=run_append_own_at (P:=Try.prog) w base 58 58 116 i0 (.agg #[(0:Int),(0:Int)]) 2 16 Try.underlying58 hi hz0 hzs hzb rfl (by decide) v n zs hown ⟨b,off,none⟩ m cap xs hl (fun j u hj=>by rw [show (⟨b,off,none⟩:Addr).add j=⟨b,off+j,none⟩ from by simp [Addr.add]];exact hc j u hj) h1 (by unfold maxLen;omega) (by omega) hbase;exact⟨v',w',r,o,g,q⟩
theorem wp_app_34 (w:World) {o:Oper} {a:Act} {K:Act→World→Prop} {Q:Exit→Act→World→Prop} (s x:Operand)
  (ho:o.op= .call ⟨.builtin .append,#[s,x],#[58,58]⟩) (hty:o.type=58)
  (base:Nat) (v:Value) (n:Nat) (zs:List Value) (hs:a.eval s=v) (hown:w.ownsRow base 116 2 v n zs)
  (xv:Value) (m:Nat) (xs:List Value) (hx:a.eval x=xv) (hI:zP_ w 2 xv m xs) (h1:∀u∈xs,u.oneCell'=true) (hn:n+m≤2000000) (hbase:base≤w.heap.size)
  (h:∀v' w',w'.ownsRow base 116 2 v' (n+m) (zs++xs)→w.grownBy w' v.ownBlock→(v'.ownBlock=v.ownBlock∨v'.ownBlock=some w.heap.size)→K (a.put o.dst v') w'):o.wp Try.prog a w K Q:=by
 obtain⟨v',w',r,q1,q2,q3⟩:=app_34 w base v n zs hown xv m xs hI h1 hn hbase;unfold Oper.wp;simp [execOp,ho,resolve,invoke,builtin,hs,hx,hty,r,Result.andThen];exact h v' w' q1 q2 q3
theorem wpList_app_34 (w:World) {ops:Array Oper} {rest:List Oper} {o:Oper} {a:Act} {Q:Exit→Act→World→Prop} (hgd:o.guard=none) (s x:Operand)
  (ho:o.op= .call ⟨.builtin .append,#[s,x],#[58,58]⟩) (hty:o.type=58)
  (base:Nat) (v:Value) (n:Nat) (zs:List Value) (hs:a.eval s=v) (hown:w.ownsRow base 116 2 v n zs)
  (xv:Value) (m:Nat) (xs:List Value) (hx:a.eval x=xv) (hI:zP_ w 2 xv m xs) (h1:∀u∈xs,u.oneCell'=true) (hn:n+m≤2000000) (hbase:base≤w.heap.size)
  (h:∀v' w',w'.ownsRow base 116 2 v' (n+m) (zs++xs)→w.grownBy w' v.ownBlock→(v'.ownBlock=v.ownBlock∨v'.ownBlock=some w.heap.size)→wpList Try.prog ops Q rest (a.put o.dst v') w'):wpList Try.prog ops Q (o::rest) a w:=
 wpList_plain hgd fun _ hK=>wp_app_34 w s x ho hty base v n zs hs hown xv m xs hx hI h1 hn hbase fun v' w' h2 h3 h4=>hK _ _ (h v' w' h2 h3 h4)
theorem List.map_set_eq (f:Nat) (mt:List Int) (x:Int):(mt.map (Value.int .i64)).set f (.int .i64 x)=(mt.set f x).map (.int .i64):=by simp [List.map_set]
def toQ (m:Ms):Mq:=⟨m.ki,m.fr,m.dst,m.te,m.ix,m.be,m.co,m.ye⟩
def bareM (m:Ms):Mv:=⟨⟨m.ki,m.fr,m.dst,m.te,m.ix,m.be,m.co,m.ye,[]⟩,none,0⟩
theorem flatM_bare (A:List Ms):zu_ (A.map bareM)=flat9 (A.map toQ):=by
 induction A with
 | nil=>rfl
 | cons x r ih=>simp only [List.map_cons,zu_,flat9,ih];rfl
theorem bare_q {A:List Ms} (h:∀a∈A,a.es= []):(A.map bareM).map Mv.q=A:=by
 induction A with
 | nil=>rfl
 | cons x r ih=>
  have:=h x (List.mem_cons_self);simp only [List.map_cons,ih fun a ha=>h a (List.mem_cons_of_mem _ ha)]
  congr 1
  cases x
  simp only at this;simp [bareM,this]
theorem sl_to27 (a:Option Addr) (n cap p:Nat) (w:World) (hp:p≤cap):(Instr.sliceAt 42 (.slice a n cap) none (some (.int .i64 p)) none).run Try.prog w= .ok (.slice a p cap) w:=by
 have h1:(p:Int)≤(cap:Int):=by omega
 have h2:(0:Int)≤(p:Int):=by omega
 have hA:(Instr.sliceAt 42 (.slice a n cap) none (some (.int .i64 p)) none).run Try.prog w=(Instr.slice 42 (.slice a n cap) none (some (.int .i64 p)) none).run Try.prog w:=by simp [Instr.sliceAt,run_underlying Try.underlying42]
 rw [hA];simp [Instr.slice,Instr.sliceBounds,Instr.sliceBound,asIntOf,run_underlying Try.underlying42,hp,h2,Try.sizeOf38]
 cases a <;>simp [Addr.add]
theorem own_cap {w:World} {base:Nat} {e:TypeId} {size n:Nat} {a:Option Addr} {cap:Nat} {xs:List Value} (h:w.ownsRow base e size (.slice a n cap) n xs):n≤cap:=by
 rcases h.2 with⟨h1,h0⟩ | ⟨g,cap',cur,hv,_,_,hc,_⟩
 ·omega
 ·simp only [Value.slice.injEq] at hv;omega
theorem Box.c3f {w:World} {b:Nat} {u v t:Value} (h:Box w b [u,v,t]):b<w.heap.size∧w.cell? ⟨b,0,none⟩=some u∧w.cell? ⟨b,1,none⟩=some v∧w.cell? ⟨b,2,none⟩=some t∧w.frozen? ⟨b,0,none⟩=false∧w.frozen? ⟨b,1,none⟩=false∧w.frozen? ⟨b,2,none⟩=false:=⟨h.1,h.2.1 0 _ rfl,h.2.1 1 _ rfl,h.2.1 2 _ rfl,h.2.2 0,h.2.2 1,h.2.2 2⟩
def set9 (w:World) (g o:Nat) (v0 v1 v2 v3 v4 v5 v6 v7 v8:Value):World:=((((((((w.setCell ⟨g,o,none⟩ v0).setCell ⟨g,o+1,none⟩ v1).setCell ⟨g,o+2,none⟩ v2).setCell ⟨g,o+3,none⟩ v3).setCell ⟨g,o+4,none⟩ v4).setCell ⟨g,o+5,none⟩ v5).setCell ⟨g,o+6,none⟩ v6).setCell ⟨g,o+7,none⟩ v7).setCell ⟨g,o+8,none⟩ v8
theorem set9_chg (w:World) (g o:Nat) (v0 v1 v2 v3 v4 v5 v6 v7 v8:Value):Chg (fun b=>b=g) w (set9 w g o v0 v1 v2 v3 v4 v5 v6 v7 v8):=by
 unfold set9
 iterate 9 (refine Chg.setCell (S:=fun b=>b=g) ?_ rfl _)
 exact Chg.refl _ _
def setNw (w:World) (g j:Nat) (x:Nv):World:=set9 w g (j*9) (.int .i64 x.n.id) (.int .i64 x.n.pe) (.int .i64 x.n.te) (.int .i64 x.n.vo) (.slice x.la x.n.log.length x.lc) (.int .i64 x.n.co) (.int .i64 x.n.ro) (.slice x.va x.n.vs.length x.vc) (.slice x.ma x.n.mt.length x.mc)
theorem setNw_owns {w:World} {base g n cap:Nat} {N:List Nv} (h:w.ownsRow base 26 9 (.slice (some ⟨g,0,none⟩) n cap) n (zH_ N)) (j:Nat) (x:Nv):(setNw w g j x).ownsRow base 26 9 (.slice (some ⟨g,0,none⟩) n cap) n (zH_ (N.set j x)):=by
 rw [←flatN_set N j x];unfold setNw set9;exact ((((((((h.stored (j*9) _).1.stored (j*9+1) _).1.stored (j*9+2) _).1.stored (j*9+3) _).1.stored (j*9+4) _).1.stored (j*9+5) _).1.stored (j*9+6) _).1.stored (j*9+7) _).1.stored (j*9+8) _ |>.1
theorem setNw_chg (w:World) (g j:Nat) (x:Nv):Chg (fun b=>b=g) w (setNw w g j x):=set9_chg _ _ _ _ _ _ _ _ _ _ _ _
theorem zZ_ {w:World} {base g cap n:Nat} {N:List Nv} (h:w.ownsRow base 26 9 (.slice (some ⟨g,0,none⟩) n cap) n (zH_ N)) (j:Nat) (hj:j<N.length) (hn:n=N.length):g<w.heap.size∧w.cell? ⟨g,j*9,none⟩=some (.int .i64 N[j].n.id)∧w.cell? ⟨g,j*9+1,none⟩=some (.int .i64 N[j].n.pe)∧w.cell? ⟨g,j*9+2,none⟩=some (.int .i64 N[j].n.te)∧w.cell? ⟨g,j*9+3,none⟩=some (.int .i64 N[j].n.vo)∧w.cell? ⟨g,j*9+4,none⟩=some (.slice N[j].la N[j].n.log.length N[j].lc)∧w.cell? ⟨g,j*9+5,none⟩=some (.int .i64 N[j].n.co)∧w.cell? ⟨g,j*9+6,none⟩=some (.int .i64 N[j].n.ro)∧w.cell? ⟨g,j*9+7,none⟩=some (.slice N[j].va N[j].n.vs.length N[j].vc)∧w.cell? ⟨g,j*9+8,none⟩=some (.slice N[j].ma N[j].n.mt.length N[j].mc):=by
 subst hn;obtain⟨g0,g1,g2,g3,g4,g5,g6,g7,g8⟩:=flatN_get N j hj;exact⟨(owns_lt h).2,by rw [h.cellAt (j*9) (by omega),g0],by rw [h.cellAt (j*9+1) (by omega),g1],by rw [h.cellAt (j*9+2) (by omega),g2],by rw [h.cellAt (j*9+3) (by omega),g3],by rw [h.cellAt (j*9+4) (by omega),g4],by rw [h.cellAt (j*9+5) (by omega),g5],by rw [h.cellAt (j*9+6) (by omega),g6],by rw [h.cellAt (j*9+7) (by omega),g7],by rw [h.cellAt (j*9+8) (by omega),g8]⟩
theorem ownM_at {w:World} {base g cap n:Nat} {N:List Mv} (h:w.ownsRow base 38 9 (.slice (some ⟨g,0,none⟩) n cap) n (zu_ N)) (j:Nat) (hj:j<N.length) (hn:n=N.length):g<w.heap.size∧w.cell? ⟨g,j*9,none⟩=some (.int .i64 N[j].q.ki)∧w.cell? ⟨g,j*9+1,none⟩=some (.int .i64 N[j].q.fr)∧w.cell? ⟨g,j*9+2,none⟩=some (.int .i64 N[j].q.dst)∧w.cell? ⟨g,j*9+3,none⟩=some (.int .i64 N[j].q.te)∧w.cell? ⟨g,j*9+4,none⟩=some (.int .i64 N[j].q.ix)∧w.cell? ⟨g,j*9+5,none⟩=some (.int .i64 N[j].q.be)∧w.cell? ⟨g,j*9+6,none⟩=some (.slice N[j].ea N[j].q.es.length N[j].ec)∧w.cell? ⟨g,j*9+7,none⟩=some (.int .i64 N[j].q.co)∧w.cell? ⟨g,j*9+8,none⟩=some (.bool N[j].q.ye):=by
 subst hn;obtain⟨g0,g1,g2,g3,g4,g5,g6,g7,g8⟩:=flatM_get N j hj;exact⟨(owns_lt h).2,by rw [h.cellAt (j*9) (by omega),g0],by rw [h.cellAt (j*9+1) (by omega),g1],by rw [h.cellAt (j*9+2) (by omega),g2],by rw [h.cellAt (j*9+3) (by omega),g3],by rw [h.cellAt (j*9+4) (by omega),g4],by rw [h.cellAt (j*9+5) (by omega),g5],by rw [h.cellAt (j*9+6) (by omega),g6],by rw [h.cellAt (j*9+7) (by omega),g7],by rw [h.cellAt (j*9+8) (by omega),g8]⟩
theorem frz9 {w:World} {base:Nat} {e:TypeId} {size g cap n:Nat} {xs:List Value} (h:w.ownsRow base e size (.slice (some ⟨g,0,none⟩) n cap) n xs) (o:Nat):w.frozen? ⟨g,o,none⟩=false∧w.frozen? ⟨g,o+1,none⟩=false∧w.frozen? ⟨g,o+2,none⟩=false∧w.frozen? ⟨g,o+3,none⟩=false∧w.frozen? ⟨g,o+4,none⟩=false∧w.frozen? ⟨g,o+5,none⟩=false∧w.frozen? ⟨g,o+6,none⟩=false∧w.frozen? ⟨g,o+7,none⟩=false∧w.frozen? ⟨g,o+8,none⟩=false:=
 ⟨h.frozenAt _,h.frozenAt _,h.frozenAt _,h.frozenAt _,h.frozenAt _,h.frozenAt _,h.frozenAt _,h.frozenAt _,h.frozenAt _⟩
theorem rowIn_box {w:World} {b size n:Nat} {vs:List Value} (h:Box w b vs) (hl:vs.length=n*size):zP_ w size (.slice (some ⟨b,0,none⟩) n n) n vs:=
 ⟨hl,_,n,rfl,.inr ⟨b,0,rfl,h.1,fun j u hj=>by rw [Nat.zero_add];exact h.2.1 j u hj⟩⟩
structure Bnd (x:Nd):Prop where
 co:0≤x.co
 l:x.log.length≤1048576
 v:x.vs.length≤1048576
 m:x.mt.length≤1048576
 s:∀i (h:i<x.log.length),x.log[i].d.size≤1048576
theorem Gd.vl {x:Nd} (h:Gd x):x.vs.length≤7∧x.mt.length≤7:=by
 have h7:=h.p7;have hin:=ro_in h.ro;by_cases r0:x.ro=0
 ·have:=h.r0 r0;rw [this.1,this.2];simp
 ·by_cases r1:x.ro=1
  ·have:=h.r1 r1;rw [this.2.2.2.2.2];simp;omega
  ·have:=h.r2 (by omega);rw [this.2.2.1];simp;omega
theorem Gd.sz {x:Nd} (h:Gd x):∀e∈x.log,e.d.size≤1048576:=fun e he=>by
 obtain⟨i,hi,rfl⟩:=List.getElem_of_mem he;have:=(gE_all h.lg i hi).1;simp only [yf_,Bool.and_eq_true,decide_eq_true_eq] at this;omega
theorem Gd.bnd {x:Nd} (h:Gd x):Bnd x:=⟨h.c0,by have:=h.ll;omega,by have:=h.vl;omega,by have:=h.vl;omega,fun i hi=>h.sz _ (List.getElem_mem hi)⟩
def HmA (w':World) (b0:Nat) (z:Nd) (A:List Ms) (ok:Bool) (e:Ending):Prop:=
 (ok=true∧∃ul uv um ua,e= .returned (.tuple #[.agg #[z.id,z.pe,z.te,z.vo,ul,z.co,z.ro,uv,um],ua,true])∧OwnN w' b0 ul uv um z.log z.vs z.mt∧w'.ownsRow b0 38 9 ua A.length (flat9 (A.map toQ)))∨
 (ok=false∧e= .returned (.tuple #[.agg zN,(),false]))
end Go.Proofs.Ytapfhhmimkkhnaa
