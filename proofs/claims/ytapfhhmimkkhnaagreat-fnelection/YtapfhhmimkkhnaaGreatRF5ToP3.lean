/-
  Agreement, plainly: who leads proposes, who follows accepts; what is committed stays so.
  Numbers in rows: eqIntS, szIntS, toIntS, markIntS, heldIntS; an append of one.
  Marks in a list of entries: markText, markEntryS, heldEntryS; rows marked and held, nil or not.
  Nodes and messages, plainly; the small functions: isPeer, l1In, l11Peers, goodEntry, l3Entry, areMost, isOwnTerm, Contains, l10Has.
  slices.Index, slices.Contains, l10Has; goodEntries, l11Entries.
  A node is good: the program's side (hasGoodVotes, hasGoodMatch, hasGoodRole, GoodNode).
-/
import Derived.Test.YtapfhhmimkkhnaaGreatRF2ToRF4
import Derived.Test.YtapfhhmimkkhnaaGreatAToRF1
import Derived.OwnWalk
import Derived.Deep.QuietTactic
import Derived.BigQuiet
import Derived.Deep.SlicePairs
import Derived.Lib.SmallJoins
namespace Go.Proofs.YtapfhhmimkkhnaaGreat
set_option linter.unusedVariables false
def Sys.accept (s:Sys) (j:Nat) (P':List En) (y:Nat):Sys:= { s with g:=s.g.tell j (s.tm j) y,lg:=fun i=>if i=j then P' else s.lg i }
theorem AInv.accept {n:Nat} {s:Sys} (h:AInv n s) (j:Nat) (P':List En) (y:Nat) (hel:s.g.el (s.tm j)) (hz:∀z,Has (s.lg j) (s.g.LL (s.tm j)) z→Has P' (s.g.LL (s.tm j)) z) (hy:Has P' (s.g.LL (s.tm j)) y) (hP:P'=s.lg j∨P'=(s.g.LL (s.tm j)).take y):AInv n (s.accept j P' y):=by
 obtain⟨_,_,_,_,hEL,hLO⟩:=h.ld _ hel;refine⟨fun i T k e=> ?_,h.cd,fun i=> ?_,h.ld,fun T e=> ?_,fun i T=> ?_,h.cm.told y rfl⟩
 ·obtain⟨a,b,c,d⟩:=h.vt i T k e;refine⟨a,b,c,fun he=>(d he).toldOther y ?_⟩;by_cases hij:j=i
  ·subst hij;exact .inr a
  ·exact .inl hij
 ·unfold Sys.accept;dsimp only;obtain⟨a,b⟩:=h.lo i;by_cases hi:i=j
  ·subst hi;rw [if_pos rfl];refine⟨?_,(b.accept hel hEL hz).told y hy 0⟩;rcases hP with rfl | rfl
   ·exact a
   ·exact hLO.take y hy.2.1
  ·rw [if_neg hi];exact⟨a,b.toldOther y (.inl fun e=>hi e.symm)⟩
 ·obtain⟨a,b⟩:=h.no T e;refine⟨a,fun i=> ?_⟩;unfold Sys.accept Gh.tell;dsimp only;rw [if_neg];exact b i;rintro⟨_,rfl⟩;exact e hel
 ·unfold Sys.accept Gh.tell;dsimp only;obtain⟨a,b⟩:=h.ac i T;by_cases hc:i=j∧T=s.tm j
  ·rw [if_pos hc];obtain⟨rfl,rfl⟩:=hc;exact⟨by have:=hy.2.1;omega,fun hh=>by omega⟩
  ·rw [if_neg hc];exact⟨a,b⟩
def Sys.propose (s:Sys) (k:Nat) (e:En):Sys:= { s with g:=(s.g.prop (s.tm k) e).tell k (s.tm k) ((s.g.LL (s.tm k)).length+1),lg:=fun i=>if i=k then s.g.LL (s.tm k)++ [e] else s.lg i }
theorem prop_LL (g:Gh) (W:Int) (e:En):(g.prop W e).LL W=g.LL W++ [e]:=by simp [Gh.prop]
theorem prop_LL_ne (g:Gh) {W T:Int} (e:En) (h:¬T=W):(g.prop W e).LL T=g.LL T:=by simp [Gh.prop,h]
theorem AInv.propose {n:Nat} {s:Sys} (h:AInv n s) (k:Nat) (e:En) (hel:s.g.el (s.tm k)) (hlg:s.lg k=s.g.LL (s.tm k)) (he:e.t=s.tm k):AInv n (s.propose k e):=by
 have hak:∀i T,s.g.ack i T≤(s.g.LL T).length:=fun i T=>(h.ac i T).1;have hcm:zJ_ n ((s.g.prop (s.tm k) e).tell k (s.tm k) ((s.g.LL (s.tm k)).length+1)) s.tm:=(h.cm.propose (W:=s.tm k) e hak h.votes).told (g:=s.g.prop (s.tm k) e) _ rfl;refine⟨fun i T k' e1=> ?_,fun T i P e1=> ?_,fun i=> ?_,fun T e1=> ?_,fun T e1=> ?_,fun i T=> ?_,hcm⟩
 ·obtain⟨a,b,c,d⟩:=h.vt i T k' e1;refine⟨a,b.prop e,c,fun hh=>(Kept.propose (W:=s.tm k) (d hh) e hak).toldOther (g:=s.g.prop (s.tm k) e) _ ?_⟩;by_cases hij:k=i
  ·subst hij;exact .inr a
  ·exact .inl hij
 ·obtain⟨a,b⟩:=h.cd T i P e1;exact⟨a.prop e,b⟩
 ·unfold Sys.propose;dsimp only;obtain⟨a,b⟩:=h.lo i;have b1:=Kept.propose (W:=s.tm k) b e hak;by_cases hi:i=k
  ·subst hi;rw [if_pos rfl];refine⟨yv_.snoc (h.ld _ hel).2.2.2.2.2 hel he,?_⟩;rw [hlg] at b1;refine Kept.told (g:=s.g.prop (s.tm i) e) (Kept.grown b1 [e]) _ ?_ 0;rw [prop_LL];exact Has.refl _ _ (by simp)
  ·rw [if_neg hi];exact⟨a.prop e,b1.toldOther (g:=s.g.prop (s.tm k) e) _ (.inl fun e=>hi e.symm)⟩
 ·obtain⟨a,b,c,d,f,q⟩:=h.ld T e1;refine⟨a,b,c,d,?_,?_⟩
  ·show Has (s.g.E T) ((s.g.prop (s.tm k) e).LL T) (s.g.E T).length;by_cases hT:T=s.tm k
   ·subst hT;rw [prop_LL];exact has_grown f _
   ·rw [prop_LL_ne _ _ hT];exact f
  ·show yv_ (s.g.prop (s.tm k) e) ((s.g.prop (s.tm k) e).LL T) T;by_cases hT:T=s.tm k
   ·subst hT;rw [prop_LL];exact yv_.snoc q hel he
   ·rw [prop_LL_ne _ _ hT];exact q.prop e
 ·have hT:¬T=s.tm k:=fun hh=>e1 (hh ▸ hel);obtain⟨a,b⟩:=h.no T e1;refine⟨?_,fun i=> ?_⟩
  ·show (s.g.prop (s.tm k) e).LL T= [];rw [prop_LL_ne _ _ hT];exact a
  ·unfold Sys.propose Gh.tell;dsimp only;rw [if_neg fun hh=>hT hh.2];exact b i
 ·obtain⟨a,b⟩:=h.ac i T;show ((s.g.prop (s.tm k) e).tell k (s.tm k) ((s.g.LL (s.tm k)).length+1)).ack i T≤((s.g.prop (s.tm k) e).LL T).length∧(s.tm i<T→((s.g.prop (s.tm k) e).tell k (s.tm k) ((s.g.LL (s.tm k)).length+1)).ack i T=0);have hb:(s.g.LL T).length≤((s.g.prop (s.tm k) e).LL T).length:=by
   by_cases hT:T=s.tm k
   ·subst hT;rw [prop_LL];simp
   ·rw [prop_LL_ne _ _ hT];exact Nat.le_refl _
  unfold Gh.tell;dsimp only;by_cases hc:i=k∧T=s.tm k
  ·rw [if_pos hc];obtain⟨rfl,rfl⟩:=hc;rw [prop_LL];exact⟨by simp [Gh.prop];omega,fun hh=>by omega⟩
  ·rw [if_neg hc];exact⟨Nat.le_trans a hb,b⟩
structure Grows (g g':Gh):Prop where
 el:∀T,g.el T→g'.el T
 ll:∀T,g.el T→Has (g.LL T) (g'.LL T) (g.LL T).length
 ack:∀j T,g.el T→g.ack j T≤g'.ack j T
theorem Grows.elect {g:Gh} {W:Int} (k:Nat) (P:List En) (hne:¬g.el W):Grows g (g.elect W k P):=by
 have hn:∀T,g.el T→¬T=W:=fun T h e=>hne (by rw [←e];exact h);refine⟨fun T h=> .inr h,fun T h=> ?_,fun j T h=> ?_⟩
 ·rw [g.elect_LL_ne k P (hn T h)];exact Has.refl _ _ (Nat.le_refl _)
 ·rw [g.elect_ack k j P (hn T h)];exact Nat.le_refl _
theorem Grows.tell (g:Gh) (j:Nat) (W:Int) (y:Nat):Grows g (g.tell j W y):=by
 refine⟨fun T h=>h,fun T h=>Has.refl _ _ (Nat.le_refl _),fun i T h=> ?_⟩;unfold Gh.tell;dsimp only
 split
 ·rename_i hc;rw [hc.1,hc.2];omega
 ·exact Nat.le_refl _
theorem Grows.prop (g:Gh) (W:Int) (e:En):Grows g (g.prop W e):=by
 refine⟨fun T h=>h,fun T h=> ?_,fun i T h=>Nat.le_refl _⟩;by_cases hT:T=W
 ·subst hT;rw [prop_LL];exact has_grown (Has.refl _ _ (Nat.le_refl _)) _
 ·rw [prop_LL_ne _ _ hT];exact Has.refl _ _ (Nat.le_refl _)
theorem Grows.trans {a b c:Gh} (h:Grows a b) (k:Grows b c):Grows a c:=⟨fun T x=>k.el T (h.el T x),fun T x=>(h.ll T x).trans ((k.ll T (h.el T x)).mono (h.ll T x).2.1),fun j T x=>Nat.le_trans (h.ack j T x) (k.ack j T (h.el T x))⟩
theorem Decided.grows {n:Nat} {g g':Gh} {T:Int} {x:Nat} (h:Decided n g T x) (hg:Grows g g'):Decided n g' T x:=by
 obtain⟨hx,hxT,hel,hm⟩:=h;have hl:=hg.ll T hel;refine⟨Nat.lt_of_lt_of_le hx hl.2.1,?_,hg.el T hel,hm.mono fun j _ hj=>Nat.lt_of_lt_of_le hj (hg.ack j T hel)⟩;rw [←hl.at hx];exact hxT
theorem zp_.grows {n:Nat} {g g':Gh} {P:List En} {c:Nat} {B:Int} (h:zp_ n g P c B) (hg:Grows g g'):zp_ n g' P c B:=by
 rcases h with h | ⟨T,x,d,t,c1,a⟩
 ·exact .inl h
 ·exact .inr ⟨T,x,d.grows hg,t,c1,a.trans ((hg.ll T d.2.2.1).mono a.2.1)⟩
theorem zp_.later {n:Nat} {g:Gh} {P:List En} {c:Nat} {B B':Int} (h:zp_ n g P c B) (hB:B≤B'):zp_ n g P c B':=by
 rcases h with h | ⟨T,x,d,t,c1,a⟩
 ·exact .inl h
 ·exact .inr ⟨T,x,d,by omega,c1,a⟩
theorem zp_.of {n:Nat} {g:Gh} {P Q:List En} {c c':Nat} {B:Int} (h:zp_ n g Q c B) (hc:c'≤c) (hP:Has P Q c'):zp_ n g P c' B:=by
 rcases h with h | ⟨T,x,d,t,c1,a⟩
 ·exact .inl (by omega)
 ·exact .inr ⟨T,x,d,t,by omega,hP.trans (a.mono hc)⟩
theorem zp_.decide {n:Nat} {g:Gh} {W:Int} {x:Nat} (hel:g.el W) (hx:x<(g.LL W).length) (hxT:(g.LL W)[x].t=W) (hm:Maj n fun j=>x<g.ack j W):zp_ n g (g.LL W) (x+1) W:=
 .inr ⟨W,x,⟨hx,hxT,hel,hm⟩,Int.le_refl _,Nat.le_refl _,Has.refl _ _ (by omega)⟩
end Go.Proofs.YtapfhhmimkkhnaaGreat
namespace Go.Proofs.YtapfhhmimkkhnaaGreat
open Go.RowKit Go.Deep
set_option linter.unusedVariables false
set_option maxRecDepth 100000
theorem zh_ {w:World} {base:Nat} {e:TypeId} {size:Nat} {v:Value} {n:Nat} {xs:List Value} (h:w.ownsRow base e size v n xs):∀b,v.ownBlock=some b→b<w.heap.size:=by
 intro b hb;rcases h.2 with⟨rfl,_⟩ | ⟨g,cap,cur,rfl,_,hh,_⟩
 ·simp [Value.ownBlock] at hb
 ·simp only [Value.ownBlock,Option.some.injEq] at hb;subst hb;exact (Array.getElem?_eq_some_iff.1 hh).1
theorem ze_ {w:World} {base:Nat} {e:TypeId} {size:Nat} {v:Value} {n:Nat} {xs:List Value} (h:w.ownsRow base e size v n xs):∃a c,v= .slice a n c:=by
 rcases h.2 with⟨rfl,h0⟩ | ⟨g,cap,cur,rfl,_⟩
 ·exact⟨none,0,by rw [h0]⟩
 ·exact⟨_,_,rfl⟩
theorem Tryz.info3:(Tryz.prog.info? 3).map (fun i=>(i.zero,i.size,i.bytes))=some (some (.int .i64 0),1,8):=by kernel_rfl
end Go.Proofs.YtapfhhmimkkhnaaGreat
namespace Go.Proofs.YtapfhhmimkkhnaaGreat
open Go.RowKit
set_option linter.unusedVariables false
set_option maxRecDepth 100000
def mkE (k:Int):En:=⟨k,mkT (k+1)⟩
def mkEs (k:Int) (n:Nat):List En:=(List.range n).map fun j:Nat=>mkE (k+2*(j:Int))
theorem zn_ {w:World} {b1 b2:Nat} {e1 e2:TypeId} {s1 s2:Nat} {v1 v2:Value} {n1 n2:Nat} {x1 x2:List Value} (h1:w.ownsRow b1 e1 s1 v1 n1 x1) (h2:w.ownsRow b2 e2 s2 v2 n2 x2) (hne:e1≠e2):∀g,v1.ownBlock=some g→v2.ownBlock≠some g:=by
 intro g hg hg2;rcases h1.2 with⟨rfl,_⟩ | ⟨g1,c1,cur1,rfl,_,hh1,_⟩
 ·simp [Value.ownBlock] at hg
 ·rcases h2.2 with⟨rfl,_⟩ | ⟨g2,c2,cur2,rfl,_,hh2,_⟩
  ·simp [Value.ownBlock] at hg2
  ·simp only [Value.ownBlock,Option.some.injEq] at hg hg2;subst hg hg2;rw [hh1] at hh2;simp only [Option.some.injEq,Obj.cells.injEq] at hh2;exact hne hh2.2.1
theorem zf_ {w:World} {base base':Nat} {e:TypeId} {size:Nat} {v:Value} {n:Nat} {xs:List Value} (h:w.ownsRow base e size v n xs) (hb:base'≤base):w.ownsRow base' e size v n xs:=by
 refine⟨h.1,?_⟩;rcases h.2 with h0 | ⟨g,cap,cur,hv,hbg,r⟩
 ·exact .inl h0
 ·exact .inr ⟨g,cap,cur,hv,Nat.le_trans hb hbg,r⟩
def isP (i n:Int):Bool:=decide (0≤i)&&decide (i<n)
def inB (n lo hi:Int):Bool:=decide (lo≤n)&&decide (n≤hi)
def yn_ (e:En):Bool:=decide (1≤e.t)&&decide (e.t≤1000000)&&decide ((e.d.size:Int)≤100)
def gE (T:Int):Int→List En→Bool
 | _,[]=>true
 | a,e::r=>yn_ e&&decide (a≤e.t)&&decide (e.t≤T)&&gE T e.t r
theorem gE_drop (T a:Int) (l:List En) (k:Nat) (h:k<l.length):gE T a (l.drop k)=(yn_ l[k]&&decide (a≤l[k].t)&&decide (l[k].t≤T)&&gE T l[k].t (l.drop (k+1))):=by
 rw [List.drop_eq_getElem_cons h];rfl
theorem gE_one (T:Int) (l:List En):gE T 1 l=gE T 0 l:=by
 cases l with
 | nil=>rfl
 | cons e r=>
  simp only [gE]
  congr 2
  unfold yn_;by_cases h:1≤e.t
  ·have h0:(0:Int)≤e.t:=by omega
   simp [h,h0]
  ·simp [h]
def vAt (pe:Int) (l:List Int) (k:Nat):Bool:=isP (l.getD k 0) pe&&(k==0 || decide (l.getD (k-1) 0<l.getD k 0))
def vTo (pe:Int) (l:List Int):Nat→Bool
 | 0=>true
 | k+1=>vTo pe l k&&vAt pe l k
def gV (pe:Int) (l:List Int):Bool:=vTo pe l l.length
theorem vTo_false (pe:Int) (l:List Int) (k n:Nat) (h:k<n) (hk:vAt pe l k=false):vTo pe l n=false:=by
 induction n with
 | zero=>omega
 | succ n ih=>
  simp only [vTo];by_cases e:k=n
  ·subst e;rw [hk];simp
  ·rw [ih (by omega)];rfl
theorem yh_ (l:List Int) (k:Nat) (h:k<l.length):l.getD k 0=l[k]:=by simp [h]
def gM (n:Int) (l:List Int):Bool:=l.all fun m=>decide (0≤m)&&decide (m≤n)
theorem gM_drop (n:Int) (l:List Int) (k:Nat) (h:k<l.length):gM n (l.drop k)=((decide (0≤l[k])&&decide (l[k]≤n))&&gM n (l.drop (k+1))):=by
 unfold gM;rw [List.drop_eq_getElem_cons h];rfl
def hsI (l:List Int) (x:Int):Bool:=l.any fun m=>m==x
theorem hsI_drop (l:List Int) (x:Int) (k:Nat) (h:k<l.length):hsI (l.drop k) x=(l[k]==x || hsI (l.drop (k+1)) x):=by
 unfold hsI;rw [List.drop_eq_getElem_cons h];rfl
def goodVs (pe id:Int) (vs:List Int):Bool:=gV pe vs&&(hsI vs id&& !decide (pe<2*(vs.length:Int)))
def goodMt (pe id n:Int) (mt:List Int):Bool:=decide ((mt.length:Int)=pe)&&(gM n mt&&decide (mt.getD id.toNat 0=n))
def ownT (id te vo:Int):Bool:=decide (vo=id)&&decide (1≤te)
def zF_ (id pe te vo ro n:Int) (vs mt:List Int):Bool:=
 (decide (ro=0)&&(decide ((vs.length:Int)=0)&&decide ((mt.length:Int)=0))) ||
 ((decide (ro=1)&&(ownT id te vo&&goodVs pe id vs&&decide ((mt.length:Int)=0))) ||
 (decide (ro=2)&&(ownT id te vo&&decide ((vs.length:Int)=0)&&goodMt pe id n mt)))
def zm_ (id pe te vo co ro:Int) (log:List En) (vs mt:List Int):Bool:=
 decide (1≤pe)&&decide (pe≤7)&&isP id pe&&decide (0≤te)&&decide (te≤1000)&&(decide (vo= -1) || isP vo pe)&&decide ((log.length:Int)≤60)&&gE te 0 log&&decide (0≤co)&&decide (co≤(log.length:Int))&&zF_ id pe te vo ro log.length vs mt
theorem isPeer_any (i n:Int) (w:World):Calls Tryz.prog 120 #[i,n] w fun e w'=>e= .returned (.bool (isP i n))∧w'=w:=by
 unfold isP;by_cases h:0≤i
 ·by_cases h1:i<n
  ·go_enter Tryz.func120,Tryz.ntmps120;go_wp2;go_ret;exact⟨by simp <;>omega,rfl⟩
  ·go_enter Tryz.func120,Tryz.ntmps120;go_wp2;go_ret;exact⟨by simp <;>omega,rfl⟩
 ·go_enter Tryz.func120,Tryz.ntmps120;go_wp2;go_ret;exact⟨by simp <;>omega,rfl⟩
theorem zt_ (n lo hi:Int) (w:World):Calls Tryz.prog 42 #[n,lo,hi] w fun e w'=>e= .returned (.bool (inB n lo hi))∧w'=w:=by
 unfold inB;by_cases h:lo≤n
 ·by_cases h1:n≤hi
  ·go_enter Tryz.func42,Tryz.ntmps42;go_wp2;go_ret;exact⟨by simp <;>omega,rfl⟩
  ·go_enter Tryz.func42,Tryz.ntmps42;go_wp2;go_ret;exact⟨by simp <;>omega,rfl⟩
 ·go_enter Tryz.func42,Tryz.ntmps42;go_wp2;go_ret;exact⟨by simp <;>omega,rfl⟩
theorem l11Peers_any (n:Int) (w:World):Calls Tryz.prog 39 #[n] w fun e w'=>e= .returned (.bool (inB n 1 7))∧w'=w:=by
 go_enter Tryz.func39,Tryz.ntmps39;go_wp2_with fail;refine (zt_ _ _ _ _).mono ?_;rintro e w1 ⟨rfl,rfl⟩;go_wp2;go_ret;exact⟨rfl,rfl⟩
theorem goodEntry_any (t:Int) (d:ByteArray) (w:World) (hd:d.size≤1048576):Calls Tryz.prog 148 #[.agg #[t,d]] w fun e w'=>e= .returned (.bool (yn_ ⟨t,d⟩))∧Below w.heap.size w w':=by
 unfold yn_;dsimp only;by_cases h:1≤t
 ·by_cases h1:t≤1000000
  ·by_cases h2:(d.size:Int)≤100
   ·go_enter Tryz.func148,Tryz.ntmps148;go_wp2;go_ret;exact⟨by simp <;>omega,zb_ _ _⟩
   ·go_enter Tryz.func148,Tryz.ntmps148;go_wp2;go_ret;exact⟨by simp <;>omega,zb_ _ _⟩
  ·go_enter Tryz.func148,Tryz.ntmps148;go_wp2;go_ret;exact⟨by simp <;>omega,zb_ _ _⟩
 ·go_enter Tryz.func148,Tryz.ntmps148;go_wp2;go_ret;exact⟨by simp <;>omega,zb_ _ _⟩
theorem l3Entry_any (t:Int) (d:ByteArray) (w:World) (hd:d.size≤1048576):Calls Tryz.prog 125 #[.agg #[t,d]] w fun e w'=>e= .returned (.bool (yn_ ⟨t,d⟩))∧Below w.heap.size w w':=by
 have HE:Hid (yn_ ⟨t,d⟩=(inB t 1 1000000&&decide ((d.size:Int)≤100))):=rfl;have K:=fun w=>zt_ t 1 1000000 w;generalize yn_ ⟨t,d⟩=R at*;generalize inB t 1 1000000=b at*;by_cases h2:(d.size:Int)≤100
 all_goals
  go_enter Tryz.func125,Tryz.ntmps125;go_wp2_with fail;refine (K _).mono ?_;rintro e w1 ⟨rfl,rfl⟩
  cases b
  all_goals
   go_wp2;go_ret;exact⟨by rw [HE.out];simp <;>omega,zb_ _ _⟩
theorem areMost_any (id pe te vo co ro many:Int) (vl vv vm:Value) (w:World) (h0:0≤many) (h1:many≤1048576):Calls Tryz.prog 167 #[.agg #[id,pe,te,vo,vl,co,ro,vv,vm],many] w fun e w'=>e= .returned (.bool (decide (pe<2*many)))∧Below w.heap.size w w':=by
 by_cases h:pe<2*many
 all_goals
  go_enter Tryz.func167,Tryz.ntmps167;go_wp2;go_ret;exact⟨by simp <;>omega,zb_ _ _⟩
theorem isOwnTerm_any (id pe te vo co ro:Int) (vl vv vm:Value) (w:World):Calls Tryz.prog 149 #[.agg #[id,pe,te,vo,vl,co,ro,vv,vm]] w fun e w'=>e= .returned (.bool (ownT id te vo))∧Below w.heap.size w w':=by
 unfold ownT;by_cases h:vo=id
 ·by_cases h1:1≤te
  all_goals
   go_enter Tryz.func149,Tryz.ntmps149;go_wp2;go_ret;exact⟨by simp <;>omega,zb_ _ _⟩
 ·go_enter Tryz.func149,Tryz.ntmps149;go_wp2;go_ret;exact⟨by simp <;>omega,zb_ _ _⟩
set_option maxHeartbeats 2000000
theorem index_any (v:Value) (zs:List Int) (x:Int) (w:World) (hv:IL w v zs) (hn:zs.length≤1048576):
  Calls Tryz.prog 176 #[v,x] w fun e w'=>∃r:Int,e= .returned (.int .i64 r)∧decide (0≤r)=hsI zs x∧w'=w:=by
 obtain⟨a,cap,rfl,hc⟩:=hv;go_enter Tryz.func176,Tryz.ntmps176;go_wp2
 go_loopw [8] (fun i wr=>∃k:Nat,k≤zs.length∧i= .int .i64 k∧hsI zs x=hsI (zs.drop k) x∧wr=w) (fun i _=>zs.length-(intOf i).toNat)
 case atStart=>exact⟨0,Nat.zero_le _,rfl,rfl,rfl⟩
 case round=>
  obtain⟨k,hk,rfl,hg,rfl⟩:=hrel;by_cases hlt:k<zs.length
  ·obtain⟨b,off,rfl,hbl,hcell⟩:=hc (by intro e;simp [e] at hlt);have hc0:=hcell k hlt;have HD:Hid (hsI zs x=(zs[k]==x || hsI (zs.drop (k+1)) x)):=by show _=_;rw [hg,hsI_drop zs x k hlt]
   clear hcell hc hg;generalize zs[k]=s at*;by_cases hx:x=s
   ·go_wp2;go_ret;exact⟨_,rfl,by rw [HD.out,hx];simp,rfl⟩
   ·have hx':¬s=x:=fun h=>hx h.symm;go_wp2;go_roundw
    case rel=>exact⟨k+1,by omega,by go_num,by rw [HD.out,beq_false_of_ne hx'];rfl,by first | rfl | trivial⟩
    case measure=>simp [intOf];omega
  ·obtain rfl:k=zs.length:=by omega
   have HD:Hid (hsI zs x=false):=by show _=_;rw [hg,List.drop_length];rfl
   clear hc hg;go_wp2;go_ret;exact⟨_,rfl,by rw [HD.out];rfl,rfl⟩
theorem contains_any (v:Value) (zs:List Int) (x:Int) (w:World) (hv:IL w v zs) (hn:zs.length≤1048576):
  Calls Tryz.prog 166 #[v,x] w fun e w'=>e= .returned (.bool (hsI zs x))∧w'=w:=by
 have K:=index_any v zs x w hv hn;generalize hsI zs x=R at*;obtain⟨a,cap,rfl,hc⟩:=hv;go_enter Tryz.func166,Tryz.ntmps166;go_wp2_with fail;refine K.mono ?_;rintro e w1 ⟨r,rfl,hr,rfl⟩;clear K hc;by_cases h:0≤r
 ·have HR:Hid (R=true):=by show _=_;rw [←hr];simp [h]
  clear hr;go_wp2;go_ret;exact⟨by rw [HR.out];simp <;>omega,rfl⟩
 ·have HR:Hid (R=false):=by show _=_;rw [←hr];simp;omega
  clear hr;go_wp2;go_ret;exact⟨by rw [HR.out];simp <;>omega,rfl⟩
theorem l10Has_any (v:Value) (zs:List Int) (x:Int) (w:World) (hv:IL w v zs) (hn:zs.length≤1048576):
  Calls Tryz.prog 76 #[v,x] w fun e w'=>e= .returned (.bool (hsI zs x))∧w'=w:=by
 obtain⟨a,cap,rfl,hc⟩:=hv;go_enter Tryz.func76,Tryz.ntmps76;go_wp2
 go_loopw [9] (fun i wr=>∃k:Nat,k≤zs.length∧i= .int .i64 k∧hsI zs x=hsI (zs.drop k) x∧wr=w) (fun i _=>zs.length-(intOf i).toNat)
 case atStart=>exact⟨0,Nat.zero_le _,rfl,rfl,rfl⟩
 case round=>
  obtain⟨k,hk,rfl,hg,rfl⟩:=hrel;by_cases hlt:k<zs.length
  ·obtain⟨b,off,rfl,hbl,hcell⟩:=hc (by intro e;simp [e] at hlt);have hc0:=hcell k hlt;have HD:Hid (hsI zs x=(zs[k]==x || hsI (zs.drop (k+1)) x)):=by show _=_;rw [hg,hsI_drop zs x k hlt]
   clear hcell hc hg;generalize zs[k]=s at*;by_cases hx:s=x
   ·go_wp2;go_ret;exact⟨by rw [HD.out,hx];simp,rfl⟩
   ·go_wp2;go_roundw
    case rel=>exact⟨k+1,by omega,by go_num,by rw [HD.out,beq_false_of_ne hx];rfl,by first | rfl | trivial⟩
    case measure=>simp [intOf];omega
  ·obtain rfl:k=zs.length:=by omega
   have HD:Hid (hsI zs x=false):=by show _=_;rw [hg,List.drop_length];rfl
   clear hc hg;go_wp2;go_ret;exact⟨by rw [HD.out];try rfl,by first | rfl | trivial⟩
theorem Box.b2 {w:World} {b:Nat} {v0 v1:Value} (h:Box w b [v0,v1]):b<w.heap.size∧w.cell? ⟨b,0,none⟩=some v0∧w.cell? ⟨b,1,none⟩=some v1:=⟨h.1,h.2.1 0 _ rfl,h.2.1 1 _ rfl⟩
theorem goodEntries_any (v:Value) (l:List En) (T:Int) (w:World) (hv:ER w v l) (hn:l.length≤1048576) (hs:∀i (h:i<l.length),l[i].d.size≤1048576):
  Calls Tryz.prog 121 #[v,T] w fun e w'=>e= .returned (.bool (gE T 0 l))∧Below w.heap.size w w':=by
 obtain⟨a,cap,rfl,hc⟩:=hv;go_enter Tryz.func121,Tryz.ntmps121;go_wp2
 go_loopw [5,10] (fun p i wr=>∃(k:Nat) (z:Int),k≤l.length∧i= .int .i64 k∧p= .int .i64 z∧gE T 0 l=gE T z (l.drop k)∧Below w.heap.size w wr) (fun _ i _=>l.length-(intOf i).toNat)
 case atStart=>exact⟨0,0,Nat.zero_le _,rfl,rfl,rfl,Below.refl _ _⟩
 case round=>
  obtain⟨k,z,hk,rfl,rfl,hg,hb⟩:=hrel;by_cases hlt:k<l.length
  ·obtain⟨b,off,rfl,hbl,hcell⟩:=hc (by intro e;simp [e] at hlt);have hc0:=(hb.cell (p:=⟨b,off+k*2,none⟩) hbl).trans (hcell k hlt).1;have hc1:=(hb.cell (p:=⟨b,off+k*2+1,none⟩) hbl).trans (hcell k hlt).2;have HD:Hid (gE T 0 l=(yn_ l[k]&&decide (z≤l[k].t)&&decide (l[k].t≤T)&&gE T l[k].t (l.drop (k+1)))):=by show _=_;rw [hg,gE_drop T z l k hlt]
   have hsk:=hs k hlt;clear hcell hc hg hs;generalize l[k]=s at*;obtain⟨st,sd⟩:=s;dsimp only at hc0 hc1 HD hsk;have KE:=fun w=>goodEntry_any st sd w hsk;have hz:=hb.size;have hB0:=hb.alloc hz (.cells #[st,sd] 44);have X0:=Box.new wr #[st,sd] 44;generalize yn_ ⟨st,sd⟩=ge at*;go_wp2_with fail;refine (KE _).mono ?_;rintro e w1 ⟨rfl,hb1⟩;have hB1:=hB0.trans (hb1.mono hB0.size);have X1:=X0.below hb1;obtain⟨hx0,x0,x1⟩:=X1.b2;clear KE hB0 X0 hb1 hb
   cases ge with
   | false=>
    go_wp2;go_ret;exact⟨by rw [HD.out];rfl,hB1⟩
   | true=>
    by_cases h1:st<z
    ·go_wp2;go_ret;exact⟨by rw [HD.out];simp <;>omega,hB1⟩
    ·by_cases h2:T<st
     ·go_wp2;go_ret;exact⟨by rw [HD.out];simp <;>omega,hB1⟩
     ·have HD2:Hid (gE T 0 l=gE T st (l.drop (k+1))):=by
       show _=_;rw [HD.out,decide_eq_true (show z≤st from by omega),decide_eq_true (show st≤T from by omega)];rfl
      clear HD;go_wp2;go_roundw
      case rel=>exact⟨k+1,st,by omega,by go_num,rfl,HD2.out,hB1⟩
      case measure=>simp [intOf];omega
  ·obtain rfl:k=l.length:=by omega
   have HD:Hid (gE T 0 l=true):=by show _=_;rw [hg,List.drop_length];rfl
   clear hc hg;go_wp2;go_ret;exact⟨by rw [HD.out];try rfl,hb⟩
theorem l11Entries_any (v:Value) (l:List En) (T:Int) (w:World) (hv:ER w v l) (hn:l.length≤1048576) (hs:∀i (h:i<l.length),l[i].d.size≤1048576):
  Calls Tryz.prog 75 #[v,(1:Int),T] w fun e w'=>e= .returned (.bool (gE T 0 l&&decide ((l.length:Int)≤60)))∧Below w.heap.size w w':=by
 rw [←gE_one];obtain⟨a,cap,rfl,hc⟩:=hv;go_enter Tryz.func75,Tryz.ntmps75;go_wp2
 go_loopw [1,11] (fun p i wr=>∃(k:Nat) (z:Int),k≤l.length∧i= .int .i64 k∧p= .int .i64 z∧gE T 1 l=gE T z (l.drop k)∧Below w.heap.size w wr) (fun _ i _=>l.length-(intOf i).toNat)
 case atStart=>exact⟨0,1,Nat.zero_le _,rfl,rfl,rfl,Below.refl _ _⟩
 case round=>
  obtain⟨k,z,hk,rfl,rfl,hg,hb⟩:=hrel;by_cases hlt:k<l.length
  ·obtain⟨b,off,rfl,hbl,hcell⟩:=hc (by intro e;simp [e] at hlt);have hc0:=(hb.cell (p:=⟨b,off+k*2,none⟩) hbl).trans (hcell k hlt).1;have hc1:=(hb.cell (p:=⟨b,off+k*2+1,none⟩) hbl).trans (hcell k hlt).2;have HD:Hid (gE T 1 l=(yn_ l[k]&&inB l[k].t z T&&gE T l[k].t (l.drop (k+1)))):=by show _=_;rw [hg,gE_drop T z l k hlt];unfold inB;simp only [Bool.and_assoc]
   have hsk:=hs k hlt;clear hcell hc hg hs;generalize l[k]=s at*;obtain⟨st,sd⟩:=s;dsimp only at hc0 hc1 HD hsk;have KE:=fun w=>l3Entry_any st sd w hsk;have KI:=fun w=>zt_ st z T w;have hz:=hb.size;have hB0:=hb.alloc hz (.cells #[st,sd] 44);have X0:=Box.new wr #[st,sd] 44;generalize yn_ ⟨st,sd⟩=ge at*;generalize inB st z T=gi at*;go_wp2_with fail;refine (KE _).mono ?_;rintro e w1 ⟨rfl,hb1⟩;have hB1:=hB0.trans (hb1.mono hB0.size);have X1:=X0.below hb1;obtain⟨hx0,x0,x1⟩:=X1.b2;clear KE hB0 X0 hb1 hb
   cases ge with
   | false=>
    go_wp2;go_ret;exact⟨by rw [HD.out];rfl,hB1⟩
   | true=>
    go_wp2_with fail;refine (KI _).mono ?_;rintro e w2 ⟨rfl,rfl⟩;clear KI
    cases gi with
    | false=>
     go_wp2;go_ret;exact⟨by rw [HD.out];rfl,hB1⟩
    | true=>
     go_wp2;go_roundw
     case rel=>exact⟨k+1,st,by omega,by go_num,rfl,HD.out,hB1⟩
     case measure=>simp [intOf];omega
  ·obtain rfl:k=l.length:=by omega
   have HD:Hid (gE T 1 l=true):=by show _=_;rw [hg,List.drop_length];rfl
   clear hc hg;go_wp2;go_ret;exact⟨by rw [HD.out];simp,hb⟩
set_option maxHeartbeats 4000000
theorem Box.e9 {w:World} {b:Nat} {v0 v1 v2 v3 v4 v5 v6 v7 v8:Value} (h:Box w b [v0,v1,v2,v3,v4,v5,v6,v7,v8]):b<w.heap.size∧w.cell? ⟨b,0,none⟩=some v0∧w.cell? ⟨b,1,none⟩=some v1∧w.cell? ⟨b,2,none⟩=some v2∧w.cell? ⟨b,3,none⟩=some v3∧w.cell? ⟨b,4,none⟩=some v4∧w.cell? ⟨b,5,none⟩=some v5∧w.cell? ⟨b,6,none⟩=some v6∧w.cell? ⟨b,7,none⟩=some v7∧w.cell? ⟨b,8,none⟩=some v8:=
 ⟨h.1,h.2.1 0 _ rfl,h.2.1 1 _ rfl,h.2.1 2 _ rfl,h.2.1 3 _ rfl,h.2.1 4 _ rfl,h.2.1 5 _ rfl,h.2.1 6 _ rfl,h.2.1 7 _ rfl,h.2.1 8 _ rfl⟩
theorem vAt_eq (pe:Int) (l:List Int) (k:Nat) (h:k<l.length):vAt pe l k=(isP l[k] pe&&(k==0 || decide (l.getD (k-1) 0<l[k]))):=by unfold vAt;rw [yh_ l k h]
theorem hasGoodVotes_any (id pe te vo co ro:Int) (vl vv vm:Value) (log:List En) (vs mt:List Int) (w:World) (hl:ER w vl log) (hv:IL w vv vs) (hm:IL w vm mt) (nl:log.length≤1048576) (nv:vs.length≤1048576) (nm:mt.length≤1048576) (ns:∀i (h:i<log.length),log[i].d.size≤1048576):
  Calls Tryz.prog 150 #[.agg #[id,pe,te,vo,vl,co,ro,vv,vm]] w fun e w'=>e= .returned (.bool (goodVs pe id vs))∧Below w.heap.size w w':=by
 have hv0:=hv;obtain⟨la,lc,rfl,hlc⟩:=hl;obtain⟨va,vc,rfl,hvc⟩:=hv;obtain⟨ma,mc,rfl,hmc⟩:=hm;have hB:=zb_ w (.cells #[id,pe,te,vo,.slice la log.length lc,co,ro,.slice va vs.length vc,.slice ma mt.length mc] 42);have X:=Box.new w #[id,pe,te,vo,.slice la log.length lc,co,ro,.slice va vs.length vc,.slice ma mt.length mc] 42;obtain⟨W0,hW0⟩:∃W0,W0=w.alloc (.cells #[id,pe,te,vo,.slice la log.length lc,co,ro,.slice va vs.length vc,.slice ma mt.length mc] 42):=⟨_,rfl⟩;rw [←hW0] at hB X;obtain⟨hxl,x0,x1,x2,x3,x4,x5,x6,x7,x8⟩:=X.e9;have HO:Hid (goodVs pe id vs=(gV pe vs&&(hsI vs id&& !decide (pe<2*(vs.length:Int))))):=rfl;clear hlc hmc ns;go_enter Tryz.func150,Tryz.ntmps150;go_wp2;rw [←hW0];clear hW0
 go_loopw [8] (fun i wr=>∃k:Nat,k≤vs.length∧i= .int .i64 k∧vTo pe vs k=true∧wr=W0) (fun i _=>vs.length-(intOf i).toNat)
 case atStart=>exact⟨0,Nat.zero_le _,rfl,rfl,rfl⟩
 case round=>
  obtain⟨k,hk,rfl,hg,rfl⟩:=hrel;by_cases hlt:k<vs.length
  ·obtain⟨b,off,rfl,hbl,hcell⟩:=hvc (by intro e;simp [e] at hlt);have hc0:=(hB.cell (p:=⟨b,off+k,none⟩) hbl).trans (hcell k hlt);have KI:=fun w=>isPeer_any vs[k] pe w;have HAT:Hid (vAt pe vs k=(isP vs[k] pe&&(k==0 || decide (vs.getD (k-1) 0<vs[k])))):=vAt_eq pe vs k hlt;have HF:Hid (vAt pe vs k=false→gV pe vs=false):=fun h=>vTo_false pe vs k _ hlt h;have HN:Hid (vAt pe vs k=true→vTo pe vs (k+1)=true):=fun h=>by simp only [vTo,hg,h];rfl
   have hbW:b<wr.heap.size:=by have:=hB.size;omega
   cases hK:isP vs[k] pe with
   | false=>
    have HR:Hid (gV pe vs=false):=HF.out (by rw [HAT.out,hK];rfl);rw [hK] at KI;clear hcell hvc HAT hg hK HF HN hv0;generalize vs[k]=s at*;go_wp2_with fail;refine (KI _).mono ?_;rintro e w1 ⟨rfl,rfl⟩;go_wp2;go_ret;exact⟨by rw [HO.out,HR.out];rfl,hB⟩
   | true=>
    rw [hK] at KI;by_cases k0:k=0
    ·subst k0;have HG:Hid (vTo pe vs (0+1)=true):=HN.out (by rw [HAT.out,hK];rfl);rw [Nat.add_zero] at hc0;clear hcell hvc HAT hg hK HF HN hv0;generalize vs[0]=s at*;go_wp2_with fail;refine (KI _).mono ?_;rintro e w1 ⟨rfl,rfl⟩;go_wp2;go_roundw
     case rel=>exact⟨1,by omega,by go_num,HG.out,by first | rfl | trivial⟩
     case measure=>simp [intOf];omega
    ·obtain⟨j,rfl⟩:∃j,k=j+1:=⟨k-1,by omega⟩;have hj:j<vs.length:=by omega
     have hd0:=(hB.cell (p:=⟨b,off+j,none⟩) hbl).trans (hcell j hj);have hdd:vs.getD (j+1-1) 0=vs[j]:=yh_ vs j hj;have HAT2:Hid (vAt pe vs (j+1)=decide (vs[j]<vs[j+1])):=by show _=_;rw [HAT.out,hK,hdd];simp
     have hpos:(0:Int)<((j+1:Nat):Int):=by omega
     have hj1:(((j+1:Nat):Int)-1)=(j:Int):=by omega
     by_cases hle:vs[j+1]≤vs[j]
     ·have HR:Hid (gV pe vs=false):=HF.out (by rw [HAT2.out];simp;omega);clear hcell hvc HAT hg hK HF HN hv0 HAT2 hdd;generalize vs[j+1]=s at*;generalize vs[j]=q at*;go_wp2_with fail;refine (KI _).mono ?_;rintro e w1 ⟨rfl,rfl⟩;go_wp2;go_ret;exact⟨by rw [HO.out,HR.out];rfl,hB⟩
     ·have HG:Hid (vTo pe vs (j+1+1)=true):=HN.out (by rw [HAT2.out];simp;omega);clear hcell hvc HAT hg hK HF HN hv0 HAT2 hdd;generalize vs[j+1]=s at*;generalize vs[j]=q at*;go_wp2_with fail;refine (KI _).mono ?_;rintro e w1 ⟨rfl,rfl⟩;go_wp2;go_roundw
      case rel=>exact⟨j+1+1,by omega,by go_num,HG.out,by first | rfl | trivial⟩
      case measure=>simp [intOf];omega
  ·obtain rfl:k=vs.length:=by omega
   have HR:Hid (gV pe vs=true):=hg;have KC:=contains_any _ vs id wr (hv0.below hB) nv;have KM:=fun w=>areMost_any id pe te vo co ro (vs.length:Int) (.slice la log.length lc) (.slice va vs.length vc) (.slice ma mt.length mc) w (by omega) (by omega);clear hvc hg hv0;generalize hsI vs id=b1 at*;generalize decide (pe<2*(vs.length:Int))=b2 at*;go_wp2_with fail;refine KC.mono ?_;rintro e w1 ⟨rfl,rfl⟩;clear KC
   cases b1 with
   | false=>
    go_wp2;go_ret;exact⟨by rw [HO.out,HR.out];rfl,hB⟩
   | true=>
    go_wp2_with fail;refine (KM _).mono ?_;rintro e w1 ⟨rfl,hb1⟩;clear KM;go_wp2;go_ret;exact⟨by rw [HO.out,HR.out];rfl,za_ hB hb1⟩
theorem hasGoodMatch_any (id pe te vo co ro:Int) (vl vv vm:Value) (log:List En) (vs mt:List Int) (w:World) (hl:ER w vl log) (hv:IL w vv vs) (hm:IL w vm mt) (nl:log.length≤1048576) (nv:vs.length≤1048576) (nm:mt.length≤1048576) (ns:∀i (h:i<log.length),log[i].d.size≤1048576) (hi0:0≤id) (hi1:id<pe):
  Calls Tryz.prog 151 #[.agg #[id,pe,te,vo,vl,co,ro,vv,vm]] w fun e w'=>e= .returned (.bool (goodMt pe id log.length mt))∧Below w.heap.size w w':=by
 obtain⟨la,lc,rfl,hlc⟩:=hl;obtain⟨va,vc,rfl,hvc⟩:=hv;obtain⟨ma,mc,rfl,hmc⟩:=hm;have hB:=zb_ w (.cells #[id,pe,te,vo,.slice la log.length lc,co,ro,.slice va vs.length vc,.slice ma mt.length mc] 42);have X:=Box.new w #[id,pe,te,vo,.slice la log.length lc,co,ro,.slice va vs.length vc,.slice ma mt.length mc] 42;obtain⟨W0,hW0⟩:∃W0,W0=w.alloc (.cells #[id,pe,te,vo,.slice la log.length lc,co,ro,.slice va vs.length vc,.slice ma mt.length mc] 42):=⟨_,rfl⟩;rw [←hW0] at hB X;obtain⟨hxl,x0,x1,x2,x3,x4,x5,x6,x7,x8⟩:=X.e9;have HO:Hid (goodMt pe id log.length mt=(decide ((mt.length:Int)=pe)&&(gM log.length mt&&decide (mt.getD id.toNat 0=(log.length:Int))))):=rfl;clear hlc hvc ns;by_cases hp:(mt.length:Int)=pe
 ·obtain⟨i,rfl⟩:=Int.eq_ofNat_of_zero_le hi0;have hil:i<mt.length:=by omega
  have HE:Hid (goodMt pe (i:Int) log.length mt=(gM log.length mt&&decide (mt[i]=(log.length:Int)))):=by
   show _=_;rw [HO.out,decide_eq_true hp,Int.toNat_natCast,yh_ mt i hil];rfl
  clear HO;have HP:Hid ((mt.length:Int)=pe):=hp;subst hp;go_enter Tryz.func151,Tryz.ntmps151;go_wp2;rw [←hW0];clear hW0
  go_loopw [14] (fun z wr=>∃k:Nat,k≤mt.length∧z= .int .i64 k∧gM log.length mt=gM log.length (mt.drop k)∧wr=W0) (fun z _=>mt.length-(intOf z).toNat)
  case atStart=>exact⟨0,Nat.zero_le _,rfl,rfl,rfl⟩
  case round=>
   obtain⟨k,hk,rfl,hg,rfl⟩:=hrel;obtain⟨b,off,rfl,hbl,hcell⟩:=hmc (by intro e;simp [e] at hil);by_cases hlt:k<mt.length
   ·have hc0:=(hB.cell (p:=⟨b,off+k,none⟩) hbl).trans (hcell k hlt);have HD:Hid (gM log.length mt=((decide (0≤mt[k])&&decide (mt[k]≤(log.length:Int)))&&gM log.length (mt.drop (k+1)))):=by show _=_;rw [hg,gM_drop _ mt k hlt]
    clear hcell hmc hg;generalize mt[k]=s at*;by_cases h1:s<0
    ·have HR:Hid (gM log.length mt=false):=by show _=_;rw [HD.out,decide_eq_false (by omega)];rfl
     clear HD;go_wp2;go_ret;exact⟨by rw [HE.out,HR.out];rfl,hB⟩
    ·by_cases h2:(log.length:Int)<s
     ·have HR:Hid (gM log.length mt=false):=by show _=_;rw [HD.out,decide_eq_false (show ¬s≤(log.length:Int) from by omega),Bool.and_false];rfl
      clear HD;go_wp2;go_ret;exact⟨by rw [HE.out,HR.out];rfl,hB⟩
     ·have HR:Hid (gM log.length mt=gM log.length (mt.drop (k+1))):=by show _=_;rw [HD.out,decide_eq_true (show 0≤s from by omega),decide_eq_true (show s≤(log.length:Int) from by omega)];rfl
      clear HD;go_wp2;go_roundw
      case rel=>exact⟨k+1,by omega,by go_num,HR.out,by first | rfl | trivial⟩
      case measure=>simp [intOf];omega
   ·obtain rfl:k=mt.length:=by omega
    have hd0:=(hB.cell (p:=⟨b,off+i,none⟩) hbl).trans (hcell i hil);have HR:Hid (gM log.length mt=true):=by show _=_;rw [hg,List.drop_length];rfl
    clear hcell hmc hg;generalize mt[i]=s at*;by_cases hse:s=(log.length:Int)
    ·subst hse;go_wp2_with fail
     go_quiet (fail)
     go_wp2;go_ret;exact⟨by rw [HE.out,HR.out];simp,below_drewN hB _⟩
    ·go_wp2_with fail
     go_quiet (fail)
     go_wp2;go_ret;exact⟨by rw [HE.out,HR.out];simp [hse],below_drewN hB _⟩
 ·have HE:Hid (goodMt pe id log.length mt=false):=by
   show _=_;rw [HO.out,decide_eq_false hp];rfl
  clear HO;go_enter Tryz.func151,Tryz.ntmps151;go_wp2;rw [←hW0];go_ret;exact⟨by rw [HE.out];try rfl,hB⟩
end Go.Proofs.YtapfhhmimkkhnaaGreat
