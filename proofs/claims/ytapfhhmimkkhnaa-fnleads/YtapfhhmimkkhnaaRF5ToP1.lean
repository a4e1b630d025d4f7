/-
  Agreement, plainly: who leads proposes, who follows accepts; what is committed stays so.
  Numbers in rows: eqIntS, szIntS, toIntS, markIntS, heldIntS; an append of one.
  Marks in a list of entries: markText, markEntryS, heldEntryS; rows marked and held, nil or not.
  Nodes and messages, plainly; the small functions: isPeer, l1In, l11Peers, goodEntry, l3Entry, areMost, isOwnTerm, Contains, l10Has.
-/
import Derived.Test.YtapfhhmimkkhnaaRF2ToRF4
import Derived.Test.YtapfhhmimkkhnaaCToRF1
import Derived.OwnWalk
import Derived.Deep.QuietTactic
import Derived.BigQuiet
import Derived.Deep.SlicePairs
import Derived.Lib.SmallJoins
namespace Go.Proofs.Ytapfhhmimkkhnaa
set_option linter.unusedVariables false
def Sys.accept (s:Sys) (j:Nat) (P':List En) (y:Nat):Sys:= { s with g:=s.g.tell j (s.tm j) y,lg:=fun i=>if i=j then P' else s.lg i }
theorem AInv.accept {n:Nat} {s:Sys} (h:AInv n s) (j:Nat) (P':List En) (y:Nat) (hel:s.g.el (s.tm j)) (hz:∀z,Has (s.lg j) (s.g.LL (s.tm j)) z→Has P' (s.g.LL (s.tm j)) z) (hy:Has P' (s.g.LL (s.tm j)) y) (hP:P'=s.lg j∨P'=(s.g.LL (s.tm j)).take y):AInv n (s.accept j P' y):=by
 obtain⟨_,_,_,_,hEL,hLO⟩:=h.ld _ hel;refine⟨fun i T k e=> ?_,h.cd,fun i=> ?_,h.ld,fun T e=> ?_,fun i T=> ?_,h.cm.told y rfl⟩
 ·obtain⟨a,b,c,d⟩:=h.vt i T k e;refine⟨a,b,c,fun he=>(d he).toldOther y ?_⟩;by_cases hij:j=i
  ·subst hij;exact .inr a
  ·exact .inl hij
 ·unfold Sys.accept;dsimp only;obtain⟨a,b⟩:=h.lo i;by_cases hi:i=j
  ·subst hi;rw [if_pos rfl];refine⟨?_,(b.accept hel hEL hz).told y hy 0⟩;rcases hP with rfl | rfl
   ·exact a
   ·exact hLO.take y hy.2.1
  ·rw [if_neg hi];exact⟨a,b.toldOther y (.inl fun e=>hi e.symm)⟩
 ·obtain⟨a,b⟩:=h.no T e;refine⟨a,fun i=> ?_⟩;unfold Sys.accept Gh.tell;dsimp only;rw [if_neg];exact b i;rintro⟨_,rfl⟩;exact e hel
 ·unfold Sys.accept Gh.tell;dsimp only;obtain⟨a,b⟩:=h.ac i T;by_cases hc:i=j∧T=s.tm j
  ·rw [if_pos hc];obtain⟨rfl,rfl⟩:=hc;exact⟨by have:=hy.2.1;omega,fun hh=>by omega⟩
  ·rw [if_neg hc];exact⟨a,b⟩
def Sys.propose (s:Sys) (k:Nat) (e:En):Sys:= { s with g:=(s.g.prop (s.tm k) e).tell k (s.tm k) ((s.g.LL (s.tm k)).length+1),lg:=fun i=>if i=k then s.g.LL (s.tm k)++ [e] else s.lg i }
theorem prop_LL (g:Gh) (W:Int) (e:En):(g.prop W e).LL W=g.LL W++ [e]:=by simp [Gh.prop]
theorem prop_LL_ne (g:Gh) {W T:Int} (e:En) (h:¬T=W):(g.prop W e).LL T=g.LL T:=by simp [Gh.prop,h]
theorem AInv.propose {n:Nat} {s:Sys} (h:AInv n s) (k:Nat) (e:En) (hel:s.g.el (s.tm k)) (hlg:s.lg k=s.g.LL (s.tm k)) (he:e.t=s.tm k):AInv n (s.propose k e):=by
 have hak:∀i T,s.g.ack i T≤(s.g.LL T).length:=fun i T=>(h.ac i T).1;have hcm:zF_ n ((s.g.prop (s.tm k) e).tell k (s.tm k) ((s.g.LL (s.tm k)).length+1)) s.tm:=(h.cm.propose (W:=s.tm k) e hak h.votes).told (g:=s.g.prop (s.tm k) e) _ rfl;refine⟨fun i T k' e1=> ?_,fun T i P e1=> ?_,fun i=> ?_,fun T e1=> ?_,fun T e1=> ?_,fun i T=> ?_,hcm⟩
 ·obtain⟨a,b,c,d⟩:=h.vt i T k' e1;refine⟨a,b.prop e,c,fun hh=>(Kept.propose (W:=s.tm k) (d hh) e hak).toldOther (g:=s.g.prop (s.tm k) e) _ ?_⟩;by_cases hij:k=i
  ·subst hij;exact .inr a
  ·exact .inl hij
 ·obtain⟨a,b⟩:=h.cd T i P e1;exact⟨a.prop e,b⟩
 ·unfold Sys.propose;dsimp only;obtain⟨a,b⟩:=h.lo i;have b1:=Kept.propose (W:=s.tm k) b e hak;by_cases hi:i=k
  ·subst hi;rw [if_pos rfl];refine⟨yj_.snoc (h.ld _ hel).2.2.2.2.2 hel he,?_⟩;rw [hlg] at b1;refine Kept.told (g:=s.g.prop (s.tm i) e) (Kept.grown b1 [e]) _ ?_ 0;rw [prop_LL];exact Has.refl _ _ (by simp)
  ·rw [if_neg hi];exact⟨a.prop e,b1.toldOther (g:=s.g.prop (s.tm k) e) _ (.inl fun e=>hi e.symm)⟩
 ·obtain⟨a,b,c,d,f,q⟩:=h.ld T e1;refine⟨a,b,c,d,?_,?_⟩
  ·show Has (s.g.E T) ((s.g.prop (s.tm k) e).LL T) (s.g.E T).length;by_cases hT:T=s.tm k
   ·subst hT;rw [prop_LL];exact has_grown f _
   ·rw [prop_LL_ne _ _ hT];exact f
  ·show yj_ (s.g.prop (s.tm k) e) ((s.g.prop (s.tm k) e).LL T) T;by_cases hT:T=s.tm k
   ·subst hT;rw [prop_LL];exact yj_.snoc q hel he
   ·rw [prop_LL_ne _ _ hT];exact q.prop e
 ·have hT:¬T=s.tm k:=fun hh=>e1 (hh ▸ hel);obtain⟨a,b⟩:=h.no T e1;refine⟨?_,fun i=> ?_⟩
  ·show (s.g.prop (s.tm k) e).LL T= [];rw [prop_LL_ne _ _ hT];exact a
  ·unfold Sys.propose Gh.tell;dsimp only;rw [if_neg fun hh=>hT hh.2];exact b i
 ·obtain⟨a,b⟩:=h.ac i T;show ((s.g.prop (s.tm k) e).tell k (s.tm k) ((s.g.LL (s.tm k)).length+1)).ack i T≤((s.g.prop (s.tm k) e).LL T).length∧(s.tm i<T→((s.g.prop (s.tm k) e).tell k (s.tm k) ((s.g.LL (s.tm k)).length+1)).ack i T=0);have hb:(s.g.LL T).length≤((s.g.prop (s.tm k) e).LL T).length:=by
   by_cases hT:T=s.tm k
   ·subst hT;rw [prop_LL];simp
   ·rw [prop_LL_ne _ _ hT];exact Nat.le_refl _
  unfold Gh.tell;dsimp only;by_cases hc:i=k∧T=s.tm k
  ·rw [if_pos hc];obtain⟨rfl,rfl⟩:=hc;rw [prop_LL];exact⟨by simp [Gh.prop];omega,fun hh=>by omega⟩
  ·rw [if_neg hc];exact⟨Nat.le_trans a hb,b⟩
structure Grows (g g':Gh):Prop where
 el:∀T,g.el T→g'.el T
 ll:∀T,g.el T→Has (g.LL T) (g'.LL T) (g.LL T).length
 ack:∀j T,g.el T→g.ack j T≤g'.ack j T
theorem Grows.elect {g:Gh} {W:Int} (k:Nat) (P:List En) (hne:¬g.el W):Grows g (g.elect W k P):=by
 have hn:∀T,g.el T→¬T=W:=fun T h e=>hne (by rw [←e];exact h);refine⟨fun T h=> .inr h,fun T h=> ?_,fun j T h=> ?_⟩
 ·rw [g.elect_LL_ne k P (hn T h)];exact Has.refl _ _ (Nat.le_refl _)
 ·rw [g.elect_ack k j P (hn T h)];exact Nat.le_refl _
theorem Grows.tell (g:Gh) (j:Nat) (W:Int) (y:Nat):Grows g (g.tell j W y):=by
 refine⟨fun T h=>h,fun T h=>Has.refl _ _ (Nat.le_refl _),fun i T h=> ?_⟩;unfold Gh.tell;dsimp only
 split
 ·rename_i hc;rw [hc.1,hc.2];omega
 ·exact Nat.le_refl _
theorem Grows.prop (g:Gh) (W:Int) (e:En):Grows g (g.prop W e):=by
 refine⟨fun T h=>h,fun T h=> ?_,fun i T h=>Nat.le_refl _⟩;by_cases hT:T=W
 ·subst hT;rw [prop_LL];exact has_grown (Has.refl _ _ (Nat.le_refl _)) _
 ·rw [prop_LL_ne _ _ hT];exact Has.refl _ _ (Nat.le_refl _)
theorem Grows.trans {a b c:Gh} (h:Grows a b) (k:Grows b c):Grows a c:=⟨fun T x=>k.el T (h.el T x),fun T x=>(h.ll T x).trans ((k.ll T (h.el T x)).mono (h.ll T x).2.1),fun j T x=>Nat.le_trans (h.ack j T x) (k.ack j T (h.el T x))⟩
theorem Decided.grows {n:Nat} {g g':Gh} {T:Int} {x:Nat} (h:Decided n g T x) (hg:Grows g g'):Decided n g' T x:=by
 obtain⟨hx,hxT,hel,hm⟩:=h;have hl:=hg.ll T hel;refine⟨Nat.lt_of_lt_of_le hx hl.2.1,?_,hg.el T hel,hm.mono fun j _ hj=>Nat.lt_of_lt_of_le hj (hg.ack j T hel)⟩;rw [←hl.at hx];exact hxT
theorem zn_.grows {n:Nat} {g g':Gh} {P:List En} {c:Nat} {B:Int} (h:zn_ n g P c B) (hg:Grows g g'):zn_ n g' P c B:=by
 rcases h with h | ⟨T,x,d,t,c1,a⟩
 ·exact .inl h
 ·exact .inr ⟨T,x,d.grows hg,t,c1,a.trans ((hg.ll T d.2.2.1).mono a.2.1)⟩
theorem zn_.later {n:Nat} {g:Gh} {P:List En} {c:Nat} {B B':Int} (h:zn_ n g P c B) (hB:B≤B'):zn_ n g P c B':=by
 rcases h with h | ⟨T,x,d,t,c1,a⟩
 ·exact .inl h
 ·exact .inr ⟨T,x,d,by omega,c1,a⟩
theorem zn_.of {n:Nat} {g:Gh} {P Q:List En} {c c':Nat} {B:Int} (h:zn_ n g Q c B) (hc:c'≤c) (hP:Has P Q c'):zn_ n g P c' B:=by
 rcases h with h | ⟨T,x,d,t,c1,a⟩
 ·exact .inl (by omega)
 ·exact .inr ⟨T,x,d,t,by omega,hP.trans (a.mono hc)⟩
theorem zn_.decide {n:Nat} {g:Gh} {W:Int} {x:Nat} (hel:g.el W) (hx:x<(g.LL W).length) (hxT:(g.LL W)[x].t=W) (hm:Maj n fun j=>x<g.ack j W):zn_ n g (g.LL W) (x+1) W:=
 .inr ⟨W,x,⟨hx,hxT,hel,hm⟩,Int.le_refl _,Nat.le_refl _,Has.refl _ _ (by omega)⟩
end Go.Proofs.Ytapfhhmimkkhnaa
namespace Go.Proofs.Ytapfhhmimkkhnaa
open Go.RowKit Go.Deep
set_option linter.unusedVariables false
set_option maxRecDepth 100000
theorem zh_ {w:World} {base:Nat} {e:TypeId} {size:Nat} {v:Value} {n:Nat} {xs:List Value} (h:w.ownsRow base e size v n xs):∀b,v.ownBlock=some b→b<w.heap.size:=by
 intro b hb;rcases h.2 with⟨rfl,_⟩ | ⟨g,cap,cur,rfl,_,hh,_⟩
 ·simp [Value.ownBlock] at hb
 ·simp only [Value.ownBlock,Option.some.injEq] at hb;subst hb;exact (Array.getElem?_eq_some_iff.1 hh).1
theorem zf_ {w:World} {base:Nat} {e:TypeId} {size:Nat} {v:Value} {n:Nat} {xs:List Value} (h:w.ownsRow base e size v n xs):∃a c,v= .slice a n c:=by
 rcases h.2 with⟨rfl,h0⟩ | ⟨g,cap,cur,rfl,_⟩
 ·exact⟨none,0,by rw [h0]⟩
 ·exact⟨_,_,rfl⟩
theorem Try.info3:(Try.prog.info? 3).map (fun i=>(i.zero,i.size,i.bytes))=some (some (.int .i64 0),1,8):=by kernel_rfl
end Go.Proofs.Ytapfhhmimkkhnaa
namespace Go.Proofs.Ytapfhhmimkkhnaa
open Go.RowKit
set_option linter.unusedVariables false
set_option maxRecDepth 100000
def mkE (k:Int):En:=⟨k,mkT (k+1)⟩
def mkEs (k:Int) (n:Nat):List En:=(List.range n).map fun j:Nat=>mkE (k+2*(j:Int))
theorem zi_ {w:World} {b1 b2:Nat} {e1 e2:TypeId} {s1 s2:Nat} {v1 v2:Value} {n1 n2:Nat} {x1 x2:List Value} (h1:w.ownsRow b1 e1 s1 v1 n1 x1) (h2:w.ownsRow b2 e2 s2 v2 n2 x2) (hne:e1≠e2):∀g,v1.ownBlock=some g→v2.ownBlock≠some g:=by
 intro g hg hg2;rcases h1.2 with⟨rfl,_⟩ | ⟨g1,c1,cur1,rfl,_,hh1,_⟩
 ·simp [Value.ownBlock] at hg
 ·rcases h2.2 with⟨rfl,_⟩ | ⟨g2,c2,cur2,rfl,_,hh2,_⟩
  ·simp [Value.ownBlock] at hg2
  ·simp only [Value.ownBlock,Option.some.injEq] at hg hg2;subst hg hg2;rw [hh1] at hh2;simp only [Option.some.injEq,Obj.cells.injEq] at hh2;exact hne hh2.2.1
theorem zg_ {w:World} {base base':Nat} {e:TypeId} {size:Nat} {v:Value} {n:Nat} {xs:List Value} (h:w.ownsRow base e size v n xs) (hb:base'≤base):w.ownsRow base' e size v n xs:=by
 refine⟨h.1,?_⟩;rcases h.2 with h0 | ⟨g,cap,cur,hv,hbg,r⟩
 ·exact .inl h0
 ·exact .inr ⟨g,cap,cur,hv,Nat.le_trans hb hbg,r⟩
def isP (i n:Int):Bool:=decide (0≤i)&&decide (i<n)
def inB (n lo hi:Int):Bool:=decide (lo≤n)&&decide (n≤hi)
def yf_ (e:En):Bool:=decide (1≤e.t)&&decide (e.t≤1000000)&&decide ((e.d.size:Int)≤100)
def gE (T:Int):Int→List En→Bool
 | _,[]=>true
 | a,e::r=>yf_ e&&decide (a≤e.t)&&decide (e.t≤T)&&gE T e.t r
theorem gE_drop (T a:Int) (l:List En) (k:Nat) (h:k<l.length):gE T a (l.drop k)=(yf_ l[k]&&decide (a≤l[k].t)&&decide (l[k].t≤T)&&gE T l[k].t (l.drop (k+1))):=by
 rw [List.drop_eq_getElem_cons h];rfl
theorem gE_one (T:Int) (l:List En):gE T 1 l=gE T 0 l:=by
 cases l with
 | nil=>rfl
 | cons e r=>
  simp only [gE]
  congr 2
  unfold yf_;by_cases h:1≤e.t
  ·have h0:(0:Int)≤e.t:=by omega
   simp [h,h0]
  ·simp [h]
def vAt (pe:Int) (l:List Int) (k:Nat):Bool:=isP (l.getD k 0) pe&&(k==0 || decide (l.getD (k-1) 0<l.getD k 0))
def vTo (pe:Int) (l:List Int):Nat→Bool
 | 0=>true
 | k+1=>vTo pe l k&&vAt pe l k
def gV (pe:Int) (l:List Int):Bool:=vTo pe l l.length
theorem vTo_false (pe:Int) (l:List Int) (k n:Nat) (h:k<n) (hk:vAt pe l k=false):vTo pe l n=false:=by
 induction n with
 | zero=>omega
 | succ n ih=>
  simp only [vTo];by_cases e:k=n
  ·subst e;rw [hk];simp
  ·rw [ih (by omega)];rfl
theorem ya_ (l:List Int) (k:Nat) (h:k<l.length):l.getD k 0=l[k]:=by simp [h]
def gM (n:Int) (l:List Int):Bool:=l.all fun m=>decide (0≤m)&&decide (m≤n)
theorem gM_drop (n:Int) (l:List Int) (k:Nat) (h:k<l.length):gM n (l.drop k)=((decide (0≤l[k])&&decide (l[k]≤n))&&gM n (l.drop (k+1))):=by
 unfold gM;rw [List.drop_eq_getElem_cons h];rfl
def hsI (l:List Int) (x:Int):Bool:=l.any fun m=>m==x
theorem hsI_drop (l:List Int) (x:Int) (k:Nat) (h:k<l.length):hsI (l.drop k) x=(l[k]==x || hsI (l.drop (k+1)) x):=by
 unfold hsI;rw [List.drop_eq_getElem_cons h];rfl
def goodVs (pe id:Int) (vs:List Int):Bool:=gV pe vs&&(hsI vs id&& !decide (pe<2*(vs.length:Int)))
def goodMt (pe id n:Int) (mt:List Int):Bool:=decide ((mt.length:Int)=pe)&&(gM n mt&&decide (mt.getD id.toNat 0=n))
def ownT (id te vo:Int):Bool:=decide (vo=id)&&decide (1≤te)
def zC_ (id pe te vo ro n:Int) (vs mt:List Int):Bool:=
 (decide (ro=0)&&(decide ((vs.length:Int)=0)&&decide ((mt.length:Int)=0))) ||
 ((decide (ro=1)&&(ownT id te vo&&goodVs pe id vs&&decide ((mt.length:Int)=0))) ||
 (decide (ro=2)&&(ownT id te vo&&decide ((vs.length:Int)=0)&&goodMt pe id n mt)))
def zk_ (id pe te vo co ro:Int) (log:List En) (vs mt:List Int):Bool:=
 decide (1≤pe)&&decide (pe≤7)&&isP id pe&&decide (0≤te)&&decide (te≤1000)&&(decide (vo= -1) || isP vo pe)&&decide ((log.length:Int)≤60)&&gE te 0 log&&decide (0≤co)&&decide (co≤(log.length:Int))&&zC_ id pe te vo ro log.length vs mt
theorem isPeer_any (i n:Int) (w:World):Calls Try.prog 64 #[i,n] w fun e w'=>e= .returned (.bool (isP i n))∧w'=w:=by
 unfold isP;by_cases h:0≤i
 ·by_cases h1:i<n
  ·go_enter Try.func64,Try.ntmps64;go_wp2;go_ret;exact⟨by simp <;>omega,rfl⟩
  ·go_enter Try.func64,Try.ntmps64;go_wp2;go_ret;exact⟨by simp <;>omega,rfl⟩
 ·go_enter Try.func64,Try.ntmps64;go_wp2;go_ret;exact⟨by simp <;>omega,rfl⟩
theorem zs_ (n lo hi:Int) (w:World):Calls Try.prog 68 #[n,lo,hi] w fun e w'=>e= .returned (.bool (inB n lo hi))∧w'=w:=by
 unfold inB;by_cases h:lo≤n
 ·by_cases h1:n≤hi
  ·go_enter Try.func68,Try.ntmps68;go_wp2;go_ret;exact⟨by simp <;>omega,rfl⟩
  ·go_enter Try.func68,Try.ntmps68;go_wp2;go_ret;exact⟨by simp <;>omega,rfl⟩
 ·go_enter Try.func68,Try.ntmps68;go_wp2;go_ret;exact⟨by simp <;>omega,rfl⟩
theorem l11Peers_any (n:Int) (w:World):Calls Try.prog 87 #[n] w fun e w'=>e= .returned (.bool (inB n 1 7))∧w'=w:=by
 go_enter Try.func87,Try.ntmps87;go_wp2_with fail;refine (zs_ _ _ _ _).mono ?_;rintro e w1 ⟨rfl,rfl⟩;go_wp2;go_ret;exact⟨rfl,rfl⟩
theorem goodEntry_any (t:Int) (d:ByteArray) (w:World) (hd:d.size≤1048576):Calls Try.prog 133 #[.agg #[t,d]] w fun e w'=>e= .returned (.bool (yf_ ⟨t,d⟩))∧Below w.heap.size w w':=by
 unfold yf_;dsimp only;by_cases h:1≤t
 ·by_cases h1:t≤1000000
  ·by_cases h2:(d.size:Int)≤100
   ·go_enter Try.func133,Try.ntmps133;go_wp2;go_ret;exact⟨by simp <;>omega,zc_ _ _⟩
   ·go_enter Try.func133,Try.ntmps133;go_wp2;go_ret;exact⟨by simp <;>omega,zc_ _ _⟩
  ·go_enter Try.func133,Try.ntmps133;go_wp2;go_ret;exact⟨by simp <;>omega,zc_ _ _⟩
 ·go_enter Try.func133,Try.ntmps133;go_wp2;go_ret;exact⟨by simp <;>omega,zc_ _ _⟩
theorem l3Entry_any (t:Int) (d:ByteArray) (w:World) (hd:d.size≤1048576):Calls Try.prog 137 #[.agg #[t,d]] w fun e w'=>e= .returned (.bool (yf_ ⟨t,d⟩))∧Below w.heap.size w w':=by
 have HE:Hid (yf_ ⟨t,d⟩=(inB t 1 1000000&&decide ((d.size:Int)≤100))):=rfl;have K:=fun w=>zs_ t 1 1000000 w;generalize yf_ ⟨t,d⟩=R at*;generalize inB t 1 1000000=b at*;by_cases h2:(d.size:Int)≤100
 all_goals
  go_enter Try.func137,Try.ntmps137;go_wp2_with fail;refine (K _).mono ?_;rintro e w1 ⟨rfl,rfl⟩
  cases b
  all_goals
   go_wp2;go_ret;exact⟨by rw [HE.out];simp <;>omega,zc_ _ _⟩
theorem areMost_any (id pe te vo co ro many:Int) (vl vv vm:Value) (w:World) (h0:0≤many) (h1:many≤1048576):Calls Try.prog 113 #[.agg #[id,pe,te,vo,vl,co,ro,vv,vm],many] w fun e w'=>e= .returned (.bool (decide (pe<2*many)))∧Below w.heap.size w w':=by
 by_cases h:pe<2*many
 all_goals
  go_enter Try.func113,Try.ntmps113;go_wp2;go_ret;exact⟨by simp <;>omega,zc_ _ _⟩
theorem isOwnTerm_any (id pe te vo co ro:Int) (vl vv vm:Value) (w:World):Calls Try.prog 134 #[.agg #[id,pe,te,vo,vl,co,ro,vv,vm]] w fun e w'=>e= .returned (.bool (ownT id te vo))∧Below w.heap.size w w':=by
 unfold ownT;by_cases h:vo=id
 ·by_cases h1:1≤te
  all_goals
   go_enter Try.func134,Try.ntmps134;go_wp2;go_ret;exact⟨by simp <;>omega,zc_ _ _⟩
 ·go_enter Try.func134,Try.ntmps134;go_wp2;go_ret;exact⟨by simp <;>omega,zc_ _ _⟩
end Go.Proofs.Ytapfhhmimkkhnaa
