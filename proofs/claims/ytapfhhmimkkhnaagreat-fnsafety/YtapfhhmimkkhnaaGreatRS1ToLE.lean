/-
  A step of a play, plainly; what is good stays good.
  A step of a play, plainly: its messages are good; the cluster behind it is good.
  slices.BinarySearch and slices.Insert at a node's votes.
  A node comes to lead: leading, l11Lead, of any number of peers.
-/
import Derived.Test.YtapfhhmimkkhnaaGreatM3bToCO
import Derived.Shelf.Spec.SlicesInsertGrow
import Derived.Shelf.Slices.SearchI
import Derived.Shelf.Lay
namespace Go.Proofs.YtapfhhmimkkhnaaGreat
set_option linter.unusedVariables false
structure Gd (x:Nd):Prop where
 p1:1≤x.pe
 p7:x.pe≤7
 i0:0≤x.id
 ip:x.id<x.pe
 t0:0≤x.te
 t1:x.te≤1000
 v0: -1≤x.vo
 vp:x.vo<x.pe
 lg:gE x.te 0 x.log=true
 ll:x.log.length≤60
 c0:0≤x.co
 cl:x.co≤(x.log.length:Int)
 ro:zH_ x.id x.pe x.te x.vo x.ro x.log.length x.vs x.mt=true
theorem Gd.of {x:Nd} (h:gN x=true):Gd x:=by
 unfold gN at h;rw [zL_] at h;simp only [Bool.and_eq_true,inB,decide_eq_true_eq] at h;obtain⟨⟨a1,a2⟩,⟨b1,b2⟩,⟨c1,c2⟩,⟨d1,d2⟩,⟨e1,e2⟩,⟨f1,f2⟩,_,g⟩:=h;exact⟨a1,a2,b1,by omega,c1,c2,d1,by omega,e1,by omega,f1,f2,g⟩
theorem ro_in {id pe te vo ro n:Int} {vs mt:List Int} (h:zH_ id pe te vo ro n vs mt=true):0≤ro∧ro≤2:=by
 by_cases h0:ro=0
 ·omega
 ·by_cases h1:ro=1
  ·omega
  ·by_cases h2:ro=2
   ·omega
   ·rw [ti_ _ _ _ _ _ _ _ _ h0 h1 h2] at h;cases h
theorem Gd.good {x:Nd} (h:Gd x):gN x=true:=by
 unfold gN;rw [zL_];have:=ro_in h.ro;simp only [Bool.and_eq_true,inB,decide_eq_true_eq];exact⟨⟨h.p1,h.p7⟩,⟨h.i0,by have:=h.ip;omega⟩,⟨h.t0,h.t1⟩,⟨h.v0,by have:=h.vp;omega⟩,⟨h.lg,by have:=h.ll;omega⟩,⟨h.c0,h.cl⟩,⟨this.1,this.2⟩,h.ro⟩
theorem Gd.r0 {x:Nd} (h:Gd x) (e:x.ro=0):x.vs= []∧x.mt= []:=by
 have:=h.ro;rw [e,yC_] at this;simp only [Bool.and_eq_true,decide_eq_true_eq] at this;exact⟨List.eq_nil_iff_length_eq_zero.2 (by omega),List.eq_nil_iff_length_eq_zero.2 (by omega)⟩
theorem Gd.r1 {x:Nd} (h:Gd x) (e:x.ro=1):x.vo=x.id∧1≤x.te∧gV x.pe x.vs=true∧hsI x.vs x.id=true∧¬x.pe<2*(x.vs.length:Int)∧x.mt= []:=by
 have:=h.ro;rw [e,vp_] at this;simp only [ownT,xS_,Bool.and_eq_true,decide_eq_true_eq,Bool.not_eq_true',decide_eq_false_iff_not] at this;obtain⟨⟨⟨a,b⟩,c,d,f⟩,g⟩:=this;exact⟨a,b,c,d,f,List.eq_nil_iff_length_eq_zero.2 (by omega)⟩
theorem Gd.r2 {x:Nd} (h:Gd x) (e:x.ro=2):x.vo=x.id∧1≤x.te∧x.vs= []∧(x.mt.length:Int)=x.pe∧gM x.log.length x.mt=true∧x.mt.getD x.id.toNat 0=(x.log.length:Int):=by
 have:=h.ro;rw [e,yT_] at this;simp only [ownT,yw_,Bool.and_eq_true,decide_eq_true_eq] at this;obtain⟨⟨⟨a,b⟩,c⟩,d,f,g⟩:=this;exact⟨a,b,List.eq_nil_iff_length_eq_zero.2 (by omega),d,f,g⟩
theorem uF_ {n:Int} {mt:List Int} (h:gM n mt=true) (i:Nat) (hi:i<mt.length):0≤mt[i]∧mt[i]≤n:=by
 unfold gM at h;rw [List.all_eq_true] at h;have:=h mt[i] (List.getElem_mem hi);simpa using this
theorem gM_of {n:Int} {mt:List Int} (h:∀i (hi:i<mt.length),0≤mt[i]∧mt[i]≤n):gM n mt=true:=by
 unfold gM;rw [List.all_eq_true];intro v hv;obtain⟨i,hi,rfl⟩:=List.getElem_of_mem hv;simpa using h i hi
theorem ry_ {T T':Int} (hT:T≤T') (l:List En):∀a,gE T a l=true→gE T' a l=true:=by
 induction l with
 | nil=>intro a _;rfl
 | cons e r ih=>
  intro a h;simp only [gE,Bool.and_eq_true,decide_eq_true_eq] at h ⊢;exact⟨⟨h.1.1,by omega⟩,ih _ h.2⟩
theorem xI_ {T:Int} {l:List En} :∀ {a:Int},gE T a l=true→∀i (h:i<l.length),yn_ l[i]=true∧a≤l[i].t∧l[i].t≤T:=by
 induction l with
 | nil=>intro a _ i h;simp at h
 | cons e r ih=>
  intro a h i hi;simp only [gE,Bool.and_eq_true,decide_eq_true_eq] at h
  cases i with
  | zero=>exact⟨h.1.1.1,h.1.1.2,h.1.2⟩
  | succ i=>
   have:=ih h.2 i (by simpa using hi);simp only [List.getElem_cons_succ];exact⟨this.1,by omega,this.2.2⟩
theorem pp_ {T:Int} {l:List En} :∀ {a:Int},gE T a l=true→Srt l:=by
 induction l with
 | nil=>intro a _ i j hi;simp at hi
 | cons e r ih=>
  intro a h i j hi hj hij;simp only [gE,Bool.and_eq_true,decide_eq_true_eq] at h
  cases i with
  | zero=>
   cases j with
   | zero=>exact Int.le_refl _
   | succ j=>exact (xI_ h.2 j (by simpa using hj)).2.1
  | succ i=>
   cases j with
   | zero=>omega
   | succ j=>exact ih h.2 i j (by simpa using hi) (by simpa using hj) (by omega)
theorem gE_of {T:Int} {l:List En} :∀ {a:Int},(∀i (h:i<l.length),yn_ l[i]=true∧a≤l[i].t∧l[i].t≤T)→Srt l→gE T a l=true:=by
 induction l with
 | nil=>intro a _ _;rfl
 | cons e r ih=>
  intro a h hs;have h0:=h 0 (by simp);simp only [List.getElem_cons_zero] at h0;simp only [gE,Bool.and_eq_true,decide_eq_true_eq];refine⟨⟨⟨h0.1,h0.2.1⟩,h0.2.2⟩,ih (fun i hi=> ?_) (fun i j hi hj hij=> ?_)⟩
  ·have h1:=h (i+1) (by simpa using hi);simp only [List.getElem_cons_succ] at h1;have h2:=hs 0 (i+1) (by simp) (by simpa using hi) (by omega);simp only [List.getElem_cons_zero,List.getElem_cons_succ] at h2;exact⟨h1.1,h2,h1.2.2⟩
  ·have:=hs (i+1) (j+1) (by simpa using hi) (by simpa using hj) (by omega);simpa using this
theorem gE_take {T:Int} {l:List En} {a:Int} (h:gE T a l=true) (k:Nat):gE T a (l.take k)=true:=by
 refine gE_of (fun i hi=> ?_) (fun i j hi hj hij=> ?_)
 ·simp only [List.length_take] at hi;simp only [List.getElem_take];exact xI_ h i (by omega)
 ·simp only [List.length_take] at hi hj;simp only [List.getElem_take];exact pp_ h i j (by omega) (by omega) hij
theorem gE_dropk {T:Int} {l:List En} {a:Int} (h:gE T a l=true) (k:Nat):gE T a (l.drop k)=true:=by
 refine gE_of (fun i hi=> ?_) (fun i j hi hj hij=> ?_)
 ·simp only [List.length_drop] at hi;simp only [List.getElem_drop];exact xI_ h _ (by omega)
 ·simp only [List.length_drop] at hi hj;simp only [List.getElem_drop];exact pp_ h _ _ (by omega) (by omega) (by omega)
theorem Gd.up {x:Nd} (h:Gd x) {T:Int} (h1:x.te≤T) (h2:T≤1000):Gd (upN x T):=
 ⟨h.p1,h.p7,h.i0,h.ip,by have:=h.t0;show 0≤T;omega,h2,(by show (-1:Int)≤ -1;omega),by have:=h.p1;show (-1:Int)<x.pe;omega,ry_ h1 _ _ h.lg,h.ll,h.c0,h.cl,by show zH_ _ _ _ _ 0 _ [] []=true;rw [yC_];simp⟩
theorem Gd.fo {x:Nd} (h:Gd x):Gd (foN x):=
 ⟨h.p1,h.p7,h.i0,h.ip,h.t0,h.t1,h.v0,h.vp,h.lg,h.ll,h.c0,h.cl,by show zH_ _ _ _ _ 0 _ [] []=true;rw [yC_];simp⟩
theorem Gd.hmU {x:Nd} (h:Gd x) {T:Int} (h2:T≤1000):Gd (hmU x T):=by
 unfold Go.Proofs.YtapfhhmimkkhnaaGreat.hmU
 split
 ·exact h.up (by omega) h2
 ·exact h
def crX (x:Nd):Nd:= { foN x with co:=0 }
theorem Gd.crash {x:Nd} (h:Gd x):Gd (crX x):=
 ⟨h.p1,h.p7,h.i0,h.ip,h.t0,h.t1,h.v0,h.vp,h.lg,h.ll,Int.le_refl _,by show (0:Int)≤_;omega,by show zH_ _ _ _ _ 0 _ [] []=true;rw [yC_];simp⟩
theorem rC_ (x:Nd):zA_ (crX x):=by simp [zA_,cmN,foN,crX]
def tmX (x:Nd):Nd:=tmN x.id x.pe x.te x.co x.log
def ofQ (q:Mq):Ms:=⟨q.ki,q.fr,q.dst,q.te,q.ix,q.be,q.co,q.ye,[]⟩
def tmA (x:Nd):List Ms:=(zC_ x.id (x.te+1) x.log.length (tmAt x.log x.log.length) x.pe.toNat).map ofQ
theorem Gd.tm {x:Nd} (h:Gd x) (ht:x.te<1000):Gd (tmX x):=by
 have h1:=h.p1;have h2:=h.i0;have h3:=h.ip;have h4:=h.t0;unfold tmX tmN
 split
 ·have e0:x.id=0:=by omega
  have e1:x.pe=1:=by omega
  refine⟨h.p1,h.p7,h.i0,h.ip,by dsimp only;omega,by dsimp only;omega,by dsimp only;omega,h.ip,ry_ (show x.te≤x.te+1 by omega) _ _ h.lg,h.ll,h.c0,h.cl,?_⟩;show zH_ _ _ _ _ 2 _ [] [(x.log.length:Int)]=true;rw [yT_,e0,e1];simp [ownT,yw_,gM];omega
 ·refine⟨h.p1,h.p7,h.i0,h.ip,by dsimp only;omega,by dsimp only;omega,by dsimp only;omega,h.ip,ry_ (show x.te≤x.te+1 by omega) _ _ h.lg,h.ll,h.c0,h.cl,?_⟩;show zH_ _ _ _ _ 1 _ [x.id] []=true;rw [vp_];simp [ownT,xS_,gV,vTo,vAt,isP,hsI];omega
theorem Gd.terms {x:Nd} (h:Gd x):∀k (hk:k<x.log.length),1≤x.log[k].t∧x.log[k].t≤x.te:=fun k hk=>by
 have:=xI_ h.lg k hk;have h1:=this.1;simp only [yn_,Bool.and_eq_true,decide_eq_true_eq] at h1;exact⟨by omega,this.2.2⟩
theorem Gd.tmAt {x:Nd} (h:Gd x) (i:Nat) (hi:i≤x.log.length):0≤tmAt x.log i∧tmAt x.log i≤x.te:=by
 unfold Go.Proofs.YtapfhhmimkkhnaaGreat.tmAt
 split
 ·exact⟨Int.le_refl _,h.t0⟩
 ·have h1:i-1<x.log.length:=by omega
  have h2:=h.terms (i-1) h1;have e:x.log.getD (i-1) En.zero=x.log[i-1]:=by simp [List.getD,h1]
  rw [e];omega
theorem rf_ {x:Nd} (h:Gd x):zA_ (tmX x):=by
 unfold zA_ tmX tmN
 split
 ·have e:zv_ (x.te+1) x.pe x.co x.log [(x.log.length:Int)] x.log.length=x.co:=uJ_ _ _ _ _ _ (fun k hk=>by have:=h.terms k hk;omega) _ (Nat.le_refl _);simp only [cmN,if_true,e]
 ·simp [cmN]
def prX (x:Nd) (d:ByteArray):Nd:=prN true x.id x.pe x.te x.vo x.co x.log x.vs x.mt d
theorem Gd.pr {x:Nd} (h:Gd x) (hr:x.ro=2) (d:ByteArray) (hl:x.log.length<60) (hd:(d.size:Int)≤100):Gd (prX x d):=by
 obtain⟨a,b,c,e,f,g⟩:=h.r2 hr;have h1:=h.p1;have h2:=h.i0;have h3:=h.ip;have h4:=h.t1;have h5:=h.c0;have h6:=h.cl;have hlen:(x.log++ [(⟨x.te,d⟩:En)]).length=x.log.length+1:=by simp
 have hc:=vB_ x.te x.pe x.co (x.log++ [⟨x.te,d⟩]) (x.mt.set x.id.toNat ((x.log.length:Int)+1)) (x.log.length+1) (by rw [hlen];omega);refine⟨h.p1,h.p7,h.i0,h.ip,h.t0,h.t1,h.v0,h.vp,?_,?_,?_,?_,?_⟩
 ·show gE x.te 0 (x.log++ [⟨x.te,d⟩])=true;refine gE_of (fun i hi=> ?_) (fun i j hi hj hij=> ?_)
  ·rw [hlen] at hi;by_cases hil:i<x.log.length
   ·rw [List.getElem_append_left hil];exact xI_ h.lg i hil
   ·obtain rfl:i=x.log.length:=by omega
    rw [List.getElem_append_right (Nat.le_refl _)];simp [yn_];omega
  ·rw [hlen] at hi hj;by_cases hjl:j<x.log.length
   ·rw [List.getElem_append_left hjl,List.getElem_append_left (by omega)];exact pp_ h.lg i j (by omega) hjl hij
   ·obtain rfl:j=x.log.length:=by omega
    rw [List.getElem_append_right (Nat.le_refl _)];by_cases hil:i<x.log.length
    ·rw [List.getElem_append_left hil];simpa using (h.terms i hil).2
    ·obtain rfl:i=x.log.length:=by omega
     rw [List.getElem_append_right (Nat.le_refl _)];exact Int.le_refl _
 ·show (x.log++ [(⟨x.te,d⟩:En)]).length≤60;rw [hlen];omega
 ·show 0≤zv_ _ _ _ _ _ _;rcases hc with e1 | ⟨q,hq,e1,_⟩ <;>rw [e1] <;>omega
 ·show zv_ _ _ _ _ _ _≤(((x.log++ [(⟨x.te,d⟩:En)]).length:Nat):Int);rcases hc with e1 | ⟨q,hq,e1,_⟩ <;>rw [e1] <;>omega
 ·show zH_ x.id x.pe x.te x.vo 2 (((x.log++ [(⟨x.te,d⟩:En)]).length:Nat):Int) x.vs (x.mt.set x.id.toNat ((x.log.length:Int)+1))=true;rw [yT_,hlen,c];have hi:x.id.toNat<x.mt.length:=by omega
  have hm:gM ((x.log.length+1:Nat):Int) (x.mt.set x.id.toNat ((x.log.length:Int)+1))=true:=by
   refine gM_of fun i hi'=> ?_;simp only [List.length_set] at hi';rw [List.getElem_set]
   split
   ·omega
   ·have:=uF_ f i hi';omega
  have hg:(x.mt.set x.id.toNat ((x.log.length:Int)+1)).getD x.id.toNat 0=((x.log.length+1:Nat):Int):=by
   simp [List.getD,hi]
  simp only [ownT,yw_,hm,hg,a,List.length_set,List.length_nil];simp;exact⟨b,e⟩
theorem rk_ (x:Nd) (d:ByteArray):zA_ (prX x d):=by
 have:=uo_ ({ id:=x.id,pe:=x.pe,te:=x.te,vo:=x.vo,co:=x.co,ro:=2,log:=x.log++ [⟨x.te,d⟩],vs:=x.vs,mt:=x.mt.set x.id.toNat ((x.log.length:Int)+1) } :Nd);simpa [cmN,prX,prN] using this
theorem zt_ {pe ki fr dst te ix be co:Int} {ye:Bool} {es:List En} (h:xg_ pe ki fr dst te ix be co ye es=true):pe≤7∧(0≤fr∧fr<pe)∧(0≤dst∧dst<pe)∧fr≠dst∧1≤te∧te≤1000∧zT_ ki te ix be co ye es=true:=by
 simp only [xg_,isP,Bool.and_eq_true,decide_eq_true_eq,Bool.not_eq_true',decide_eq_false_iff_not] at h;obtain⟨⟨⟨⟨⟨⟨a,b⟩,c⟩,d⟩,e⟩,f⟩,g⟩:=h;exact⟨a,b,c,d,e,f,g⟩
theorem vU_ {pe ki fr dst te ix be co:Int} {ye:Bool} {es:List En} (a:pe≤7) (b:0≤fr∧fr<pe) (c:0≤dst∧dst<pe) (d:fr≠dst) (e:1≤te) (f:te≤1000) (g:zT_ ki te ix be co ye es=true):xg_ pe ki fr dst te ix be co ye es=true:=by
 simp only [xg_,isP,Bool.and_eq_true,decide_eq_true_eq,Bool.not_eq_true',decide_eq_false_iff_not];exact⟨⟨⟨⟨⟨⟨a,b⟩,c⟩,d⟩,e⟩,f⟩,g⟩
theorem vk_ {te ix be co:Int} {ye:Bool} {es:List En} (h:zT_ 1 te ix be co ye es=true):(0≤ix∧ix≤60∧0≤be∧be≤1000)∧es= []∧co=0∧ye=false:=by
 simp only [zT_,if_true,ya_,carB,Bool.and_eq_true,decide_eq_true_eq,Bool.not_eq_true',Bool.or_eq_false_iff,decide_eq_false_iff_not,Bool.not_eq_false'] at h;obtain⟨⟨⟨⟨⟨a,b⟩,c⟩,d⟩,e,f⟩,g⟩:=h;exact⟨⟨a,b,c,d⟩,List.eq_nil_iff_length_eq_zero.2 (by omega),f,g⟩
theorem vj_ {te ix be co:Int} {ye:Bool} {es:List En} (h:zT_ 2 te ix be co ye es=true):ix=0∧be=0∧es= []∧co=0:=by
 simp [zT_,carB] at h;obtain⟨⟨a,b⟩,c,d⟩:=h;exact⟨a,b,List.eq_nil_iff_length_eq_zero.2 (by first | omega | simp [c]),d⟩
theorem xe_ {te ix be co:Int} {ye:Bool} {es:List En} (h:zT_ 3 te ix be co ye es=true):(0≤ix∧ix≤60∧0≤be∧be≤1000)∧ix+(es.length:Int)≤60∧gE te 0 es=true∧0≤co∧co≤60∧ye=false:=by
 have e:zT_ 3 te ix be co ye es=(ya_ ix be&&uu_ te ix co es&& !ye):=by simp [zT_]
 rw [e] at h;simp only [ya_,uu_,Bool.and_eq_true,decide_eq_true_eq,Bool.not_eq_true'] at h;obtain⟨⟨⟨⟨⟨a,b⟩,c⟩,d⟩,⟨⟨f,g⟩,i⟩,j⟩,k⟩:=h;exact⟨⟨a,b,c,d⟩,f,g,i,j,k⟩
theorem xR_ {te ix be co:Int} {ye:Bool} {es:List En} (h:zT_ 4 te ix be co ye es=true):(0≤ix∧ix≤60)∧be=0∧es= []∧co=0:=by
 have e:zT_ 4 te ix be co ye es=(ya_ ix be&&decide (be=0)&& !carB es.length co):=by simp [zT_]
 rw [e] at h;simp only [ya_,carB,Bool.and_eq_true,decide_eq_true_eq,Bool.not_eq_true',Bool.or_eq_false_iff,decide_eq_false_iff_not,Bool.not_eq_false'] at h;obtain⟨⟨⟨⟨⟨a,b⟩,c⟩,d⟩,f⟩,g,i⟩:=h;exact⟨⟨a,b⟩,f,List.eq_nil_iff_length_eq_zero.2 (by omega),i⟩
theorem xd_ {ki te ix be co:Int} {ye:Bool} {es:List En} (h:zT_ ki te ix be co ye es=true):ki=1∨ki=2∨ki=3∨ki=4:=by
 by_cases h1:ki=1
 ·exact .inl h1
 ·by_cases h2:ki=2
  ·exact .inr (.inl h2)
  ·by_cases h3:ki=3
   ·exact .inr (.inr (.inl h3))
   ·by_cases h4:ki=4
    ·exact .inr (.inr (.inr h4))
    ·simp [zT_,h1,h2,h3,h4] at h
theorem kind1_of {te ix be:Int} (a:0≤ix) (b:ix≤60) (c:0≤be) (d:be≤1000):zT_ 1 te ix be 0 false []=true:=by
 simp [zT_,ya_,carB,a,b,c,d]
theorem kind2_of {te:Int} (ye:Bool):zT_ 2 te 0 0 0 ye []=true:=by simp [zT_,carB]
theorem kind3_of {te ix be co:Int} {es:List En} (a:0≤ix) (b:ix≤60) (c:0≤be) (d:be≤1000) (e:ix+(es.length:Int)≤60) (f:gE te 0 es=true) (g:0≤co) (i:co≤60):zT_ 3 te ix be co false es=true:=by
 simp [zT_,ya_,uu_,a,b,c,d,e,f,g,i]
theorem kind4_of {te ix:Int} (ye:Bool) (a:0≤ix) (b:ix≤60):zT_ 4 te ix 0 0 ye []=true:=by
 simp [zT_,ya_,carB,a,b]
def GM (p:Nat) (m:Ms):Prop:=gMs p m=true
theorem vH_ (x:Nd) (t:Int):(hmU x t).id=x.id∧(hmU x t).pe=x.pe:=by
 unfold hmU;split <;>exact⟨rfl,rfl⟩
theorem vbN_id (x:Nd) (f:Int):(vbN x f).id=x.id∧(vbN x f).pe=x.pe∧(vbN x f).te=x.te:=by
 unfold vbN
 split
 ·exact⟨rfl,rfl,rfl⟩
 ·split <;>exact⟨rfl,rfl,rfl⟩
theorem ul_ (x:Nd) (m:Ms):(hmN x m).id=x.id∧(hmN x m).pe=x.pe∧(hmN x m).te=x.te:=by
 unfold hmN
 split
 ·unfold askN;split <;>exact⟨rfl,rfl,rfl⟩
 ·split
  ·unfold votN;split
   ·exact vbN_id _ _
   ·exact⟨rfl,rfl,rfl⟩
  ·split
   ·unfold appN;split
    ·exact⟨rfl,rfl,rfl⟩
    ·split <;>exact⟨rfl,rfl,rfl⟩
   ·unfold tolN;split <;>exact⟨rfl,rfl,rfl⟩
theorem tY_ (x:Nd):(cmN x).id=x.id∧(cmN x).pe=x.pe∧(cmN x).te=x.te:=by
 unfold cmN;split <;>exact⟨rfl,rfl,rfl⟩
theorem vo_ (x:Nd) (m:Ms):(hmX x m).id=x.id∧(hmX x m).pe=x.pe:=by
 unfold hmX;have a:=tY_ (hmN (hmU x m.te) m);have b:=ul_ (hmU x m.te) m;have c:=vH_ x m.te;exact⟨a.1.trans (b.1.trans c.1),a.2.1.trans (b.2.1.trans c.2)⟩
theorem uE_ (x:Nd) (t:Int):(hmU x t).te=max x.te t:=by
 unfold hmU;split
 ·show t=_;omega
 ·omega
theorem hmA_good {p:Nat} {x:Nd} {m:Ms} (h:Gd x) (hp:x.pe=p) (hm:GM p m) (hd:m.dst=x.id):∀a∈hmA (hmU x m.te) m,GM p a:=by
 obtain⟨a1,a2,a3,a4,a5,a6,a7⟩:=zt_ hm;have ht:=uE_ x m.te;have hi:=(vH_ x m.te).1;have h1:=h.t1;intro a ha;unfold hmA at ha
 split at ha
 ·obtain rfl:=List.mem_singleton.1 ha;refine vU_ a1 ?_ a2 ?_ ?_ ?_ (kind2_of _)
  ·show 0≤(hmU x m.te).id∧(hmU x m.te).id<(p:Int);rw [hi];omega
  ·show (hmU x m.te).id≠m.fr;rw [hi];omega
  ·show 1≤(hmU x m.te).te;omega
  ·show (hmU x m.te).te≤1000;omega
 ·split at ha
  ·rename_i h1' h3
   obtain rfl:=List.mem_singleton.1 ha;rw [h3] at a7;obtain⟨⟨k1,k2,k3,k4⟩,k5,k6,k7,k8,k9⟩:=xe_ a7;have hl:(hmU x m.te).log.length≤60:=(h.hmU a6).ll;have gg:∀(ix:Int) (ye:Bool),0≤ix→ix≤60→GM p (msN 4 (hmU x m.te).id m.fr (hmU x m.te).te ix ye):=fun ix ye i0 i1=>
    vU_ a1 (by show 0≤(hmU x m.te).id∧(hmU x m.te).id<(p:Int);rw [hi];omega) a2 (by show (hmU x m.te).id≠m.fr;rw [hi];omega) (by show 1≤(hmU x m.te).te;omega) (by show (hmU x m.te).te≤1000;omega) (kind4_of _ i0 i1)
   unfold appM
   split
   ·exact gg _ _ (by omega) (by omega)
   ·split
    ·exact gg _ _ (by omega) (by omega)
    ·refine gg _ _ ?_ ?_ <;>unfold noIx <;>omega
  ·simp at ha
theorem qt_ {id te n b:Int} {k:Nat} {q:Mq} (h:q∈zC_ id te n b k):∃j:Nat,j<k∧(j:Int)≠id∧q=⟨1,id,j,te,n,b,0,false⟩:=by
 induction k with
 | zero=>simp [zC_] at h
 | succ k ih=>
  simp only [zC_,List.mem_append] at h;rcases h with h | h
  ·obtain⟨j,a,b,c⟩:=ih h;exact⟨j,by omega,b,c⟩
  ·split at h
   ·simp at h
   ·rename_i hne
    exact⟨k,by omega,hne,List.mem_singleton.1 h⟩
theorem uQ_ {x:Nd} {a:Ms} (h:a∈tmA x):∃j:Nat,j<x.pe.toNat∧(j:Int)≠x.id∧a=⟨1,x.id,j,x.te+1,x.log.length,tmAt x.log x.log.length,0,false,[]⟩:=by
 unfold tmA at h;obtain⟨q,hq,rfl⟩:=List.mem_map.1 h;obtain⟨j,a,b,rfl⟩:=qt_ hq;exact⟨j,a,b,rfl⟩
theorem tmA_good {p:Nat} {x:Nd} (h:Gd x) (hp:x.pe=p) (ht:x.te<1000):∀a∈tmA x,GM p a:=by
 intro a ha;obtain⟨j,h1,h2,rfl⟩:=uQ_ ha;have:=h.p7;have:=h.i0;have:=h.ip;have:=h.t0;have:=h.ll;have hb:=h.tmAt x.log.length (Nat.le_refl _);exact vU_ (by omega) (by dsimp only;omega) (by dsimp only;omega) (by dsimp only;omega) (by dsimp only;omega) (by dsimp only;omega) (kind1_of (by dsimp only;omega) (by dsimp only;omega) hb.1 (by dsimp only;omega))
def afX (x:Nd) (peer many:Int):Ms:=afM true x.id x.te x.co peer many x.log x.mt
theorem afX_good {p:Nat} {x:Nd} (h:Gd x) (hp:x.pe=p) {peer many:Int} (ho:afOk (gN x) x.id x.pe x.ro peer many=true):GM p (afX x peer many):=by
 simp only [afOk,isP,Bool.and_eq_true,decide_eq_true_eq,Bool.not_eq_true',decide_eq_false_iff_not] at ho;obtain⟨_,hr,⟨b1,b2⟩,b3,b4,b5⟩:=ho;obtain⟨r1,r2,r3,r4,r5,r6⟩:=h.r2 hr;have:=h.p7;have:=h.i0;have:=h.ip;have:=h.t0;have:=h.t1;have:=h.ll;have:=h.c0;have:=h.cl;have hi:peer.toNat<x.mt.length:=by omega
 have hm:=uF_ r5 peer.toNat hi;have hg:x.mt.getD peer.toNat 0=x.mt[peer.toNat]:=by simp [List.getD,hi]
 have hb:=h.tmAt (x.mt[peer.toNat]).toNat (by omega);refine vU_ (by omega) ?_ ?_ ?_ ?_ ?_ ?_
 ·show 0≤x.id∧x.id<(p:Int);omega
 ·show 0≤peer∧peer<(p:Int);omega
 ·show x.id≠peer;omega
 ·show 1≤x.te;omega
 ·show x.te≤1000;omega
 ·show zT_ 3 x.te (x.mt.getD peer.toNat 0) (tmAt x.log (x.mt.getD peer.toNat 0).toNat) x.co false (afE x.log (x.mt.getD peer.toNat 0).toNat many.toNat)=true;rw [hg];have hl:(afE x.log (x.mt[peer.toNat]).toNat many.toNat).length≤x.log.length-(x.mt[peer.toNat]).toNat:=by
   unfold afE;simp only [List.length_take,List.length_drop];omega
  exact kind3_of hm.1 (by omega) hb.1 (by omega) (by omega) (gE_take (gE_dropk h.lg _) _) (by omega) (by omega)
structure Sp where
 ki:Int
 no:Int
 k:Int
 ma:Int
 d:ByteArray
def atN (N:List Nd) (i:Int):Nd:=N.getD i.toNat Nd.zero
def atM (M:List Ms) (k:Int):Ms:=M.getD k.toNat Ms.zero
def xh_ (M A:List Ms):List Ms:=M++A.take (60-M.length)
def zB_ (L:List Ld) (a x:Nd):List Ld:=if x.ro=2∧¬(a.ro=2∧a.te=x.te)∧L.length<1000 then L++ [⟨x.te,x.id⟩] else L
def stB (N:List Nd) (M:List Ms) (s:Sp):Bool:=
 if s.ki=1 then isP s.no N.length&&tmOk (gN (atN N s.no)) (atN N s.no).ro (atN N s.no).te
 else if s.ki=2 then isP s.k M.length&&hmOk (atN N (atM M s.k).dst) (atM M s.k)
 else if s.ki=3 then isP s.k M.length
 else if s.ki=4 then isP s.k M.length&&decide (M.length<60)
 else if s.ki=5 then isP s.no N.length&&prOk (gN (atN N s.no)) (atN N s.no).ro (atN N s.no).log.length s.d
 else if s.ki=6 then isP s.no N.length&&afOk (gN (atN N s.no)) (atN N s.no).id (atN N s.no).pe (atN N s.no).ro s.k s.ma
 else if s.ki=7 then isP s.no N.length&&gN (atN N s.no)
 else false
def stN (N:List Nd) (M:List Ms) (s:Sp):List Nd:=
 if s.ki=1 then N.set s.no.toNat (tmX (atN N s.no))
 else if s.ki=2 then N.set (atM M s.k).dst.toNat (hmX (atN N (atM M s.k).dst) (atM M s.k))
 else if s.ki=5 then N.set s.no.toNat (prX (atN N s.no) s.d)
 else if s.ki=7 then N.set s.no.toNat (crX (atN N s.no))
 else N
def stM (N:List Nd) (M:List Ms) (s:Sp):List Ms:=
 if s.ki=1 then xh_ M (tmA (atN N s.no))
 else if s.ki=2 then xh_ (M.eraseIdx s.k.toNat) (hmA (hmU (atN N (atM M s.k).dst) (atM M s.k).te) (atM M s.k))
 else if s.ki=3 then M.eraseIdx s.k.toNat
 else if s.ki=4 then xh_ M [atM M s.k]
 else if s.ki=6 then xh_ M [afX (atN N s.no) s.k s.ma]
 else M
def stL (N:List Nd) (M:List Ms) (L:List Ld) (s:Sp):List Ld:=
 if s.ki=1 then zB_ L (atN N s.no) (tmX (atN N s.no))
 else if s.ki=2 then zB_ L (atN N (atM M s.k).dst) (hmX (atN N (atM M s.k).dst) (atM M s.k))
 else L
structure PG (p:Nat) (N:List Nd) (M:List Ms) (L:List Ld):Prop where
 p1:1≤p
 p7:p≤7
 n:N.length=p
 g:∀j (h:j<N.length),Gd N[j]∧N[j].id=(j:Int)∧N[j].pe=(p:Int)∧zA_ N[j]
 m6:M.length≤60
 m:∀m∈M,GM p m
 l:L.length≤1000
 lg:∀l∈L,ldOk p l=true
theorem PG.good {p:Nat} {N:List Nd} {M:List Ms} {L:List Ld} (h:PG p N M L):zU_ N M L=true:=by
 have hn:=h.n;have:=h.p1;have:=h.p7;have:=h.m6;have:=h.l;subst hn;simp only [zU_,yy_,ud_,yz_,Bool.and_eq_true,decide_eq_true_eq];refine⟨⟨by omega,by omega⟩,fun i hi=> ?_,by omega,fun i hi=>h.m _ (List.getElem_mem hi),by omega,fun i hi=>h.lg _ (List.getElem_mem hi)⟩;obtain⟨a,b,c,_⟩:=h.g i hi;simp only [ndOk,Bool.and_eq_true,decide_eq_true_eq];exact⟨a.good,b,c⟩
theorem xz_ {N:List Nd} {i:Int} (h:isP i N.length=true):∃h2:i.toNat<N.length,atN N i=N[i.toNat]∧((i.toNat:Nat):Int)=i:=by
 simp only [isP,Bool.and_eq_true,decide_eq_true_eq] at h;have h2:i.toNat<N.length:=by omega
 exact⟨h2,by simp [atN,List.getD,h2],by omega⟩
theorem uM_ {M:List Ms} {i:Int} (h:isP i M.length=true):∃h2:i.toNat<M.length,atM M i=M[i.toNat]∧((i.toNat:Nat):Int)=i:=by
 simp only [isP,Bool.and_eq_true,decide_eq_true_eq] at h;have h2:i.toNat<M.length:=by omega
 exact⟨h2,by simp [atM,List.getD,h2],by omega⟩
theorem vc_ (M A:List Ms) (h:M.length≤60):(xh_ M A).length≤60:=by
 unfold xh_;simp only [List.length_append,List.length_take];omega
theorem yD_ {M A:List Ms} {m:Ms} (h:m∈xh_ M A):m∈M∨m∈A:=by
 unfold xh_ at h;rcases List.mem_append.1 h with h | h
 ·exact .inl h
 ·exact .inr (List.mem_of_mem_take h)
theorem qN_ (L:List Ld) (a x:Nd) (h:L.length≤1000):(zB_ L a x).length≤1000:=by
 unfold zB_;split
 ·simp;omega
 ·exact h
theorem tD_ {L:List Ld} {a x:Nd} {l:Ld} (h:l∈zB_ L a x):l∈L∨(x.ro=2∧l=⟨x.te,x.id⟩):=by
 unfold zB_ at h
 split at h
 ·rename_i hc
  rcases List.mem_append.1 h with h | h
  ·exact .inl h
  ·exact .inr ⟨hc.1,List.mem_singleton.1 h⟩
 ·exact .inl h
theorem PG.set {p:Nat} {N:List Nd} {M M':List Ms} {L:List Ld} (h:PG p N M L) (j:Nat) (hj:j<N.length) (x:Nd) (hx:Gd x) (hi:x.id=N[j].id) (hp:x.pe=N[j].pe) (hs:zA_ x) (hM:M'.length≤60) (hm:∀m∈M',m∈M∨GM p m) (a:Nd):PG p (N.set j x) M' (zB_ L a x):=by
 refine⟨h.p1,h.p7,by simp [h.n],fun i hi'=> ?_,hM,fun m hm'=> ?_,qN_ _ _ _ h.l,fun l hl=> ?_⟩
 ·simp only [List.length_set] at hi';rw [List.getElem_set]
  split
  ·rename_i e
   subst e;obtain⟨_,b,c,_⟩:=h.g j hj;exact⟨hx,by rw [hi,b],by rw [hp,c],hs⟩
  ·exact h.g i hi'
 ·rcases hm m hm' with h1 | h1
  ·exact h.m m h1
  ·exact h1
 ·rcases tD_ hl with h1 | ⟨h1,rfl⟩
  ·exact h.lg l h1
  ·obtain⟨_,b,c,_⟩:=h.g j hj;have:=hx.r2 h1;have:=hx.t1;have:=hx.i0;have:=hx.ip;simp only [ldOk,isP,Bool.and_eq_true,decide_eq_true_eq];omega
theorem PG.setN {p:Nat} {N:List Nd} {M M':List Ms} {L:List Ld} (h:PG p N M L) (j:Nat) (hj:j<N.length) (x:Nd) (hx:Gd x) (hi:x.id=N[j].id) (hp:x.pe=N[j].pe) (hs:zA_ x) (hM:M'.length≤60) (hm:∀m∈M',m∈M∨GM p m):PG p (N.set j x) M' L:=by
 have:=h.set j hj x hx hi hp hs hM hm { x with ro:=2 };have e:zB_ L { x with ro:=2 } x=L:=by simp [zB_]
 rwa [e] at this
theorem PG.net {p:Nat} {N:List Nd} {M M':List Ms} {L:List Ld} (h:PG p N M L) (hM:M'.length≤60) (hm:∀m∈M',m∈M∨GM p m):PG p N M' L:=
 ⟨h.p1,h.p7,h.n,h.g,hM,fun m hm'=>by rcases hm m hm' with h1 | h1;exact h.m m h1;exact h1,h.l,h.lg⟩
theorem qC_ (id pe te co:Int) (log:List En):(tmN id pe te co log).id=id∧(tmN id pe te co log).pe=pe:=by unfold tmN;split <;>exact⟨rfl,rfl⟩
theorem PG.step {p:Nat} {N:List Nd} {M:List Ms} {L:List Ld} (h:PG p N M L) (s:Sp) (hs:stB N M s=true):PG p (stN N M s) (stM N M s) (stL N M L s):=by
 have hm6:=h.m6;by_cases e1:s.ki=1
 ·simp only [stB,stN,stM,stL,e1,if_true,Bool.and_eq_true] at hs ⊢;obtain⟨h2,ea,ei⟩:=xz_ hs.1;obtain⟨g1,g2,g3,g4⟩:=h.g _ h2;have ht:(N[s.no.toNat]).te<1000:=by
   have:=hs.2;rw [ea] at this;simp only [tmOk,Bool.and_eq_true,decide_eq_true_eq] at this;exact this.2.2
  rw [ea];exact h.set _ h2 _ (g1.tm ht) (qC_ _ _ _ _ _).1 (qC_ _ _ _ _ _).2 (rf_ g1) (vc_ _ _ hm6) (fun m hm=>(yD_ hm).imp id (tmA_good g1 g3 ht m)) _
 by_cases e2:s.ki=2
 ·simp only [stB,stN,stM,stL,e2,if_true,Bool.and_eq_true,show ¬(2:Int)=1 by decide,if_false] at hs ⊢;obtain⟨hk,ek,_⟩:=uM_ hs.1;rw [ek] at hs ⊢;have hgm:=h.m _ (List.getElem_mem hk);have hP:=hs.2;simp only [hmOk,hmP,Bool.and_eq_true,decide_eq_true_eq] at hP;have hdst:=(zt_ hgm).2.2.1;have hid:isP (M[s.k.toNat]).dst N.length=true:=by simp only [isP,Bool.and_eq_true,decide_eq_true_eq];rw [h.n];exact hdst
  obtain⟨h2,ea,ei⟩:=xz_ hid;rw [ea] at hP ⊢;obtain⟨g1,g2,g3,g4⟩:=h.g _ h2;have hx:=Gd.of hP.2.2;refine h.set _ h2 _ hx (vo_ _ _).1 (vo_ _ _).2 (uo_ _) (vc_ _ _ ?_) (fun m hm=> ?_) _
  ·have:=List.length_eraseIdx_le M s.k.toNat;omega
  ·rcases yD_ hm with q | q
   ·exact .inl (List.mem_of_mem_eraseIdx q)
   ·exact .inr (hmA_good g1 g3 hgm (by rw [g2];exact ei.symm) m q)
 by_cases e3:s.ki=3
 ·simp only [stB,stN,stM,stL,e3,if_true,show ¬(3:Int)=1 by decide,show ¬(3:Int)=2 by decide,show ¬(3:Int)=5 by decide,show ¬(3:Int)=7 by decide,if_false] at hs ⊢;exact h.net (by have:=List.length_eraseIdx_le M s.k.toNat;omega) (fun m hm=> .inl (List.mem_of_mem_eraseIdx hm))
 by_cases e4:s.ki=4
 ·simp only [stB,stN,stM,stL,e4,if_true,show ¬(4:Int)=1 by decide,show ¬(4:Int)=2 by decide,show ¬(4:Int)=3 by decide,show ¬(4:Int)=5 by decide,show ¬(4:Int)=7 by decide,if_false,Bool.and_eq_true] at hs ⊢;obtain⟨hk,ek,_⟩:=uM_ hs.1;rw [ek];refine h.net (vc_ _ _ hm6) (fun m hm=> ?_);rcases yD_ hm with q | q
  ·exact .inl q
  ·exact .inl (by rw [List.mem_singleton.1 q];exact List.getElem_mem hk)
 by_cases e5:s.ki=5
 ·simp only [stB,stN,stM,stL,e5,if_true,show ¬(5:Int)=1 by decide,show ¬(5:Int)=2 by decide,show ¬(5:Int)=3 by decide,show ¬(5:Int)=4 by decide,show ¬(5:Int)=6 by decide,if_false,Bool.and_eq_true] at hs ⊢;obtain⟨h2,ea,ei⟩:=xz_ hs.1;rw [ea] at hs ⊢;obtain⟨g1,g2,g3,g4⟩:=h.g _ h2;have hP:=hs.2;simp only [prOk,Bool.and_eq_true,decide_eq_true_eq] at hP;exact h.setN _ h2 _ (g1.pr hP.2.1 s.d (by omega) hP.2.2.2) rfl rfl (rk_ _ _) hm6 (fun m hm=> .inl hm)
 by_cases e6:s.ki=6
 ·simp only [stB,stN,stM,stL,e6,if_true,show ¬(6:Int)=1 by decide,show ¬(6:Int)=2 by decide,show ¬(6:Int)=3 by decide,show ¬(6:Int)=4 by decide,show ¬(6:Int)=5 by decide,show ¬(6:Int)=7 by decide,if_false,Bool.and_eq_true] at hs ⊢;obtain⟨h2,ea,ei⟩:=xz_ hs.1;rw [ea] at hs ⊢;obtain⟨g1,g2,g3,g4⟩:=h.g _ h2;refine h.net (vc_ _ _ hm6) (fun m hm=> ?_);rcases yD_ hm with q | q
  ·exact .inl q
  ·exact .inr (by rw [List.mem_singleton.1 q];exact afX_good g1 g3 hs.2)
 by_cases e7:s.ki=7
 ·simp only [stB,stN,stM,stL,e7,if_true,show ¬(7:Int)=1 by decide,show ¬(7:Int)=2 by decide,show ¬(7:Int)=3 by decide,show ¬(7:Int)=4 by decide,show ¬(7:Int)=5 by decide,show ¬(7:Int)=6 by decide,if_false,Bool.and_eq_true] at hs ⊢;obtain⟨h2,ea,ei⟩:=xz_ hs.1;rw [ea];obtain⟨g1,g2,g3,g4⟩:=h.g _ h2;exact h.setN _ h2 _ g1.crash rfl rfl (rC_ _) hm6 (fun m hm=> .inl hm)
 ·simp [stB,e1,e2,e3,e4,e5,e6,e7] at hs
end Go.Proofs.YtapfhhmimkkhnaaGreat
namespace Go.Proofs.YtapfhhmimkkhnaaGreat
open Go.RowKit Go.Maps Go.Lib
set_option linter.unusedVariables false
set_option maxRecDepth 100000
shelf_lay Lays2.n25 Nm2 25 at Tryz as Tryz.laysBs
shelf_lay Lays2.n21 Nm2 21 at Tryz as Tryz.laysIns
def setL (xs:List Value) (o:Nat):List Value→List Value
 | []=>xs
 | v::r=>setL (xs.set o v) (o+1) r
theorem vu_:∀(vs xs:List Value) (o:Nat),o+vs.length≤xs.length→setL xs o vs=xs.take o++vs++xs.drop (o+vs.length)
 | [],xs,o,h=>by simp [setL]
 | v::r,xs,o,h=>by
  simp only [List.length_cons] at h;rw [setL,vu_ r (xs.set o v) (o+1) (by simp;omega),list_seg_step xs o v r (by omega)]
  rfl
theorem yj_ {base:Nat} {e:TypeId} {size g cap n:Nat} :∀(vs:List Value) (o:Nat) (w:World) (xs:List Value),w.ownsRow base e size (.slice (some ⟨g,0,none⟩) n cap) n xs→(w.setCells g o vs).ownsRow base e size (.slice (some ⟨g,0,none⟩) n cap) n (setL xs o vs)
 | [],_,_,_,h=>h
 | v::r,o,w,xs,h=>yj_ r (o+1) _ _ (h.stored o v).1
theorem yq_ {S:Nat→Prop} {a:World} (b:Nat) (hb:S b):∀(vs:List Value) (o:Nat) (w:World),Chg S a w→Chg S a (w.setCells b o vs)
 | [],_,_,h=>h
 | v::r,o,w,h=>yq_ b hb r (o+1) _ (h.setCell (p:=⟨b,o,none⟩) hb v)
theorem qc_ {w:World} {base:Nat} {g cap n:Nat} {xs:List Value} (h:w.ownsRow base 3 1 (.slice (some ⟨g,0,none⟩) n cap) n xs) (hc:n+1≤cap):∃ex,ex.length=1∧w.ownsRow base 3 1 (.slice (some ⟨g,0,none⟩) (n+1) cap) (n+1) (xs++ex):=by
 obtain⟨hl,h⟩:=h;rcases h with⟨h,_⟩ | ⟨g',cap',cur,hv,hbg,hh,h1,h2,h3,h4⟩
 ·simp at h
 ·simp only [Value.slice.injEq,Option.some.injEq,Addr.mk.injEq,and_true,true_and] at hv;obtain⟨rfl,rfl⟩:=hv;have e:cur.toList.take ((n+1)*1)=xs++(cur.toList.drop (n*1)).take 1:=by
   rw [show (n+1)*1=n*1+1 from by omega,List.take_add,h4]
  have hl4:((cur.toList.drop (n*1)).take 1).length=1:=by simp;omega
  exact⟨(cur.toList.drop (n*1)).take 1,hl4,by rw [List.length_append,hl,hl4];omega,.inr ⟨g,cap,cur,rfl,hbg,hh,hc,h2,h3,e⟩⟩
theorem yf_ {w:World} {base:Nat} {e:TypeId} {size g cap n:Nat} {xs:List Value} (h:w.ownsRow base e size (.slice (some ⟨g,0,none⟩) n cap) n xs) (j:Nat) (hj:j<n*size):(w.cell? ⟨g,j,none⟩).isSome=true:=by
 rw [h.cellAt j hj,List.getElem?_eq_getElem (by rw [h.1];exact hj)];rfl
theorem owns_shape? {w:World} {base:Nat} {e:TypeId} {size g cap n:Nat} {xs:List Value} (h:w.ownsRow base e size (.slice (some ⟨g,0,none⟩) n cap) n xs):w.shape? g=some (e,cap*size):=by
 rcases h.2 with⟨h,_⟩ | ⟨g',cap',cur,hv,hbg,hh,h1,h2,h3,h4⟩
 ·simp at h
 ·simp only [Value.slice.injEq,Option.some.injEq,Addr.mk.injEq,and_true,true_and] at hv;obtain⟨rfl,rfl⟩:=hv;simp [World.shape?,hh,h3]
theorem tB_ {w:World} {base:Nat} {e:TypeId} {size g cap n:Nat} {xs:List Value} (h:w.ownsRow base e size (.slice (some ⟨g,0,none⟩) n cap) n xs):n≤cap∧cap≤maxLen:=by
 rcases h.2 with⟨h,_⟩ | ⟨g',cap',cur,hv,hbg,hh,h1,h2,h3,h4⟩
 ·simp at h
 ·simp only [Value.slice.injEq,Option.some.injEq,Addr.mk.injEq,and_true,true_and] at hv;obtain⟨rfl,rfl⟩:=hv;exact⟨h1,h2⟩
theorem bsV_any (va:Option Addr) (vc:Nat) (vs:List Int) (x:Int) (w:World) (h:IL w (.slice va vs.length vc) vs) (hne:vs≠ []) (hs:vs.Pairwise (· ≤ ·)) (hn:vs.length≤1000):
  Calls Tryz.prog 168 #[.slice va vs.length vc,x] w fun e w'=>e= .returned (.tuple #[.int .i64 (vs.countP (· <x):Nat),.bool (vs.contains x)])∧∃q,w'=w.drewN q:=by
 obtain⟨a,cap,he,hc⟩:=h;simp only [Value.slice.injEq,true_and] at he;obtain⟨rfl,rfl⟩:=he;obtain⟨b,off,rfl,hb,hcell⟩:=hc hne;have K:=Any.slices_BinarySearch_int Tryz.laysBs b off vs.length vc vs x w (Nat.le_refl _) (by omega) (fun j hj=>by rw [hcell j hj];simp [hj]) (by rw [List.take_length];exact hs);rw [List.take_length] at K;exact K
theorem tK_ (g cap base vb b0 i:Nat) (vs:List Int) (x:Int) (w:World) (ho:w.ownsRow base 3 1 (.slice (some ⟨g,0,none⟩) vs.length cap) vs.length (vs.map (.int .i64))) (hv:w.ownsRow b0 3 1 (.slice (some ⟨vb,0,none⟩) 1 1) 1 [x]) (hne:vb≠g) (hi:i<vs.length) (hroom:vs.length+1≤cap) (hn:vs.length≤1000):
  Calls Tryz.prog 169 #[.slice (some ⟨g,0,none⟩) vs.length cap,i,.slice (some ⟨vb,0,none⟩) 1 1] w fun e w'=>∃u,e= .returned u∧w'.ownsRow base 3 1 u (vs.length+1) ((vs.take i++x::vs.drop i).map (.int .i64))∧u.ownBlock=some g∧Chg (· =g) w w':=by
 obtain⟨hcn,hcm⟩:=tB_ ho;obtain⟨ex,hex,hO⟩:=qc_ ho hroom;have hvl:=(xk_ hv).2;have K:=Any2.slices_Insert_int_shift Tryz.laysIns g 0 vs.length cap i vb 0 1 1 (vs.map (.int .i64)) [x] w hi (by omega) hroom (by unfold maxLen at hcm;omega) hne (by simp) rfl
  (fun j v hj=>by rw [Nat.zero_add,ho.cellAt j (by have:=(List.getElem?_eq_some_iff.1 hj).1;simp at this;omega)];exact hj)
  (fun j hj=>by rw [Nat.zero_add];exact yf_ hO j (by omega)) (fun j hj=>ho.frozenAt _)
  (fun j v hj=>by rw [Nat.zero_add,hv.cellAt j (by have:=(List.getElem?_eq_some_iff.1 hj).1;simp at this;omega)];exact hj)
  (fun v hv=>by simp only [List.mem_map] at hv;obtain⟨z,_,rfl⟩:=hv;rfl) (fun v hv=>by simp only [List.mem_singleton] at hv;subst hv;rfl)
  3 3 1 (cap*1) (owns_shape? hv) (owns_shape? ho) (by omega) (hv.frozenAt 0) (hv.frozenAt 1)
 refine K.mono ?_;rintro e w' ⟨rfl,rfl⟩;refine⟨_,rfl,?_,rfl,yq_ (S:=(· =g)) g rfl _ _ _ (yq_ (S:=(· =g)) g rfl _ _ _ (Chg.of_below (Below.refl _ _).drew))⟩;have h1:=yj_ [x] (0+i) _ _ (yj_ ((vs.map (Value.int .i64)).drop i) (0+(i+1)) _ _ hO.drew);have hd:((vs.map (Value.int .i64)).drop i).length=vs.length-i:=by simp
 have hl:(vs.map (Value.int .i64)++ex).length=vs.length+1:=by simp [hex]
 rw [vu_ _ (vs.map (Value.int .i64)++ex) _ (by rw [hd,hl];omega)] at h1;have e1:((vs.map (Value.int .i64)++ex).drop (0+(i+1)+((vs.map (Value.int .i64)).drop i).length))= []:=List.drop_eq_nil_of_le (by rw [hd,hl];omega);rw [e1,List.append_nil] at h1;have hl2:((vs.map (Value.int .i64)++ex).take (0+(i+1))++(vs.map (Value.int .i64)).drop i).length=vs.length+1:=by
  rw [List.length_append,List.length_take,hl,hd];omega
 rw [vu_ _ _ _ (by rw [hl2];simp;omega)] at h1;have a1:((vs.map (Value.int .i64)++ex).take (0+(i+1))++(vs.map (Value.int .i64)).drop i).take (0+i)=(vs.take i).map (.int .i64):=by
  rw [List.take_append_of_le_length (by rw [List.length_take,hl];omega),List.take_take,Nat.min_eq_left (by omega),List.take_append_of_le_length (by simp;omega),Nat.zero_add,List.map_take]
 have a2:((vs.map (Value.int .i64)++ex).take (0+(i+1))++(vs.map (Value.int .i64)).drop i).drop (0+i+ [Value.int .i64 x].length)=(vs.drop i).map (.int .i64):=by
  have:0+i+ [Value.int .i64 x].length=((vs.map (Value.int .i64)++ex).take (0+(i+1))).length:=by rw [List.length_take,hl];simp;omega
  rw [this,List.drop_left,List.map_drop]
 rw [a1,a2] at h1;rw [List.map_append,List.map_cons];simpa using h1
theorem tL_ (g cap base vb b0 i:Nat) (vs:List Int) (x:Int) (w:World) (ho:w.ownsRow base 3 1 (.slice (some ⟨g,0,none⟩) vs.length cap) vs.length (vs.map (.int .i64))) (hv:w.ownsRow b0 3 1 (.slice (some ⟨vb,0,none⟩) 1 1) 1 [x]) (hbase:base≤w.heap.size) (hi:i<vs.length) (hroom:cap<vs.length+1) (hn:vs.length≤1000):
  Calls Tryz.prog 169 #[.slice (some ⟨g,0,none⟩) vs.length cap,i,.slice (some ⟨vb,0,none⟩) 1 1] w fun e w'=>∃u,e= .returned u∧w'.ownsRow base 3 1 u (vs.length+1) ((vs.take i++x::vs.drop i).map (.int .i64))∧u.ownBlock=some w.heap.size∧Below w.heap.size w w':=by
 obtain⟨hcn,hcm⟩:=tB_ ho;have K:=Any2.slices_Insert_int_grow Tryz.laysIns g 0 vs.length cap i vb 0 1 1 (vs.map (.int .i64)) [x] w hi (by omega) hcn hroom (by omega) (by simp) rfl
  (fun j v hj=>by rw [Nat.zero_add,ho.cellAt j (by have:=(List.getElem?_eq_some_iff.1 hj).1;simp at this;omega)];exact hj)
  (fun j v hj=>by rw [Nat.zero_add,hv.cellAt j (by have:=(List.getElem?_eq_some_iff.1 hj).1;simp at this;omega)];exact hj)
  (fun v hv=>by simp only [List.mem_map] at hv;obtain⟨z,_,rfl⟩:=hv;rfl) (fun v hv=>by simp only [List.mem_singleton] at hv;subst hv;rfl)
 refine K.mono ?_;rintro e w' ⟨rfl,rfl⟩;clear K;have hCn:vs.length+1≤grownCap w (vs.length+1) cap 3:=grownCap_ge w _ _ _;have hC63:grownCap w (vs.length+1) cap 3≤maxLen:=grownCap_le_maxLen w (vs.length+1) cap 3 (by unfold maxLen;omega);obtain⟨C,hC⟩:∃C,C=grownCap w (vs.length+1) cap 3:=⟨_,rfl⟩;rw [←hC] at hCn hC63;obtain⟨ROW,hROW⟩:∃ROW:Array Value,ROW=((vs.map (Value.int .i64)).take i).toArray++Builtin.zeroCells (Value.int .i64 0).cells (vs.length+1-i)++Builtin.zeroCells (Value.int .i64 0).cells (C-(vs.length+1)):=⟨_,rfl⟩;have hRs:ROW.size=C*1:=by
  rw [hROW];simp [Builtin.zeroCells,Value.cells];omega
 have hRL:ROW.toList.length=C:=by rw [Array.length_toList,hRs];omega
 have hRt:(ROW.toList.take ((vs.length+1)*1)).take i=(vs.take i).map (.int .i64):=by
  rw [List.take_take,Nat.min_eq_left (by omega),hROW];simp only [Array.toList_append,List.append_assoc];rw [List.take_append_of_le_length (by simp;omega),List.take_of_length_le (by simp;omega),List.map_take]
 have h1:(w.alloc (.cells ROW 3)).ownsRow base 3 1 (.slice (some ⟨w.heap.size,0,none⟩) (vs.length+1) C) (vs.length+1) (ROW.toList.take ((vs.length+1)*1)):=by
  refine⟨by rw [List.length_take,hRL];omega,.inr ⟨w.heap.size,C,ROW,rfl,hbase,heap_alloc_new w _,hCn,hC63,hRs,rfl⟩⟩
 have h2:Chg (fun k=>w.heap.size≤k) w ((w.alloc (.cells ROW 3)).drew):=by
  have:=zb_ w (.cells ROW 3);exact⟨rfl,rfl,rfl,this.size,fun k hk _=>this.block k hk⟩
 have hd:((vs.map (Value.int .i64)).drop i).length=vs.length-i:=by simp
 have h3:=yq_ (S:=fun k=>w.heap.size≤k) w.heap.size (Nat.le_refl _) ((vs.map (Value.int .i64)).drop i) (i+1) _ ((yq_ (S:=fun k=>w.heap.size≤k) w.heap.size (Nat.le_refl _) [Value.int .i64 x] i _ h2).trans (Chg.of_below (Below.refl _ _).drew));have h4:=yj_ ((vs.map (Value.int .i64)).drop i) (i+1) _ _ (yj_ [Value.int .i64 x] i _ _ h1.drew).drew;have hl:(ROW.toList.take ((vs.length+1)*1)).length=vs.length+1:=by rw [List.length_take,hRL];omega
 rw [vu_ [Value.int .i64 x] (ROW.toList.take ((vs.length+1)*1)) _ (by rw [hl];simp;omega),hRt] at h4;have hl2:((vs.take i).map (Value.int .i64)++ [Value.int .i64 x]++(ROW.toList.take ((vs.length+1)*1)).drop (i+ [Value.int .i64 x].length)).length=vs.length+1:=by
  simp only [List.length_append,List.length_map,List.length_take,List.length_drop,hRL,List.length_singleton];omega
 rw [vu_ _ _ _ (by rw [hl2,hd];omega)] at h4;have a1:((vs.take i).map (Value.int .i64)++ [Value.int .i64 x]++(ROW.toList.take ((vs.length+1)*1)).drop (i+ [Value.int .i64 x].length)).take (i+1)=(vs.take i).map (.int .i64)++ [Value.int .i64 x]:=by
  have hq:((vs.take i).map (Value.int .i64)++ [Value.int .i64 x]).length=i+1:=by simp;omega
  rw [←hq,List.take_left]
 have a2:((vs.take i).map (Value.int .i64)++ [Value.int .i64 x]++(ROW.toList.take ((vs.length+1)*1)).drop (i+ [Value.int .i64 x].length)).drop (i+1+((vs.map (Value.int .i64)).drop i).length)= []:=List.drop_eq_nil_of_le (by rw [hl2,hd];omega);rw [a1,a2,List.append_nil] at h4;have hX:(vs.take i++x::vs.drop i).map (Value.int .i64)=(vs.take i).map (Value.int .i64)++ [Value.int .i64 x]++(vs.map (Value.int .i64)).drop i:=by simp
 rw [hX];rw [hROW,hC] at h3 h4;exact⟨_,rfl,h4,rfl,h3.below (Nat.le_refl _) (fun k h=>h)⟩
theorem rq_ (va:Option Addr) (vc base vb b0:Nat) (vs:List Int) (x:Int) (w:World) (ho:w.ownsRow base 3 1 (.slice va vs.length vc) vs.length (vs.map (.int .i64))) (hv:w.ownsRow b0 3 1 (.slice (some ⟨vb,0,none⟩) 1 1) 1 [x]) (hbase:base≤w.heap.size) (hn:vs.length≤1000):
  Calls Tryz.prog 169 #[.slice va vs.length vc,vs.length,.slice (some ⟨vb,0,none⟩) 1 1] w fun e w'=>∃u,e= .returned u∧w'.ownsRow base 3 1 u (vs.length+1) ((vs++ [x]).map (.int .i64))∧(∀g,u.ownBlock=some g→(Value.slice va vs.length vc).ownBlock=some g∨w.heap.size≤g)∧Chg (fun b=>(Value.slice va vs.length vc).ownBlock=some b) w w':=by
 have V:IL w (.slice (some ⟨vb,0,none⟩) 1 1) [x]:=ym_ hv rfl;obtain⟨i0,hi,hz0,hzs,hzb⟩:=info_parts Tryz.info3;go_enter Tryz.func169,Tryz.ntmps169;go_wp2_with (at_builtin;refine wpList_append_own_at _ rfl _ _ 40 rfl base 3 i0 (.int .i64 0) 1 8 Tryz.underlying40 hi hz0 hzs hzb rfl (by decide) _ vs.length (vs.map (.int .i64)) rfl ho ⟨vb,0,none⟩ 1 1 [x] rfl rfl (fun j u hj=>by rw [show (⟨vb,0,none⟩:Addr).add j=⟨vb,j,none⟩ from by simp [Addr.add];omega,hv.cellAt j (by have:=(List.getElem?_eq_some_iff.1 hj).1;simp at this;omega)];exact hj) (fun u hu=>by simp only [List.mem_singleton] at hu;subst hu;rfl) (by unfold maxLen;omega) (by omega) hbase ?_;intro v' w' hown hgr _ hat;refine zs_.go ?_)
 all_goals
  unfold zs_;obtain⟨ua,uc,rfl⟩:=ze_ hown;have hat2:∀g,(Value.slice ua (vs.length+1) uc).ownBlock=some g→(Value.slice va vs.length vc).ownBlock=some g∨w.heap.size≤g:=by
   intro g hg;rcases hat with e | e
   ·exact .inl (e.symm.trans hg)
   ·rw [e] at hg;injection hg with hg;exact .inr (Nat.le_of_eq hg)
  have hgr2:Chg (fun b=>(Value.slice va vs.length vc).ownBlock=some b) w w':=⟨hgr.os,hgr.tape,hgr.output,hgr.size,fun k hk hs=>hgr.block k hk fun e=>hs e.symm⟩;clear hgr;clear ho hv V hat;have hown2:w'.ownsRow base 3 1 (.slice ua (vs.length+1) uc) (vs.length+1) ((vs++ [x]).map (.int .i64)):=by simpa using hown
  clear hown;go_wp2;go_ret;exact⟨_,rfl,hown2,hat2,hgr2⟩
theorem insV_any (va:Option Addr) (vc base vb b0 i:Nat) (vs:List Int) (x:Int) (w:World) (ho:w.ownsRow base 3 1 (.slice va vs.length vc) vs.length (vs.map (.int .i64))) (hv:w.ownsRow b0 3 1 (.slice (some ⟨vb,0,none⟩) 1 1) 1 [x]) (hne:(Value.slice va vs.length vc).ownBlock≠some vb) (hbase:base≤w.heap.size) (hi:i≤vs.length) (hn:vs.length≤1000):
  Calls Tryz.prog 169 #[.slice va vs.length vc,i,.slice (some ⟨vb,0,none⟩) 1 1] w fun e w'=>∃u,e= .returned u∧w'.ownsRow base 3 1 u (vs.length+1) ((vs.take i++x::vs.drop i).map (.int .i64))∧(∀g,u.ownBlock=some g→(Value.slice va vs.length vc).ownBlock=some g∨w.heap.size≤g)∧Chg (fun b=>(Value.slice va vs.length vc).ownBlock=some b) w w':=by
 rcases Nat.eq_or_lt_of_le hi with rfl | hlt
 ·refine (rq_ va vc base vb b0 vs x w ho hv hbase hn).mono ?_;rintro e w' ⟨u,rfl,h1,h2,h3⟩;refine⟨u,rfl,?_,h2,h3⟩;rw [List.take_length,List.drop_length];exact h1
 ·rcases ho.2 with⟨_,h0⟩ | ⟨g,cap,cur,hv',_⟩
  ·omega
  ·simp only [Value.slice.injEq,true_and] at hv';obtain⟨rfl,rfl⟩:=hv';by_cases hr:vs.length+1≤vc
   ·refine (tK_ g vc base vb b0 i vs x w ho hv (fun e=>hne (by rw [e];rfl)) hlt hr hn).mono ?_;rintro e w' ⟨u,rfl,h1,hg,h2⟩;exact⟨u,rfl,h1,fun k hk=> .inl (by rw [hg] at hk;exact hk),h2.mono fun k h=>by rw [h];rfl⟩
   ·refine (tL_ g vc base vb b0 i vs x w ho hv hbase hlt (by omega) hn).mono ?_;rintro e w' ⟨u,rfl,h1,hg,h2⟩;exact⟨u,rfl,h1,fun k hk=> .inr (by rw [hg] at hk;injection hk with hk;omega),Chg.of_below h2⟩
end Go.Proofs.YtapfhhmimkkhnaaGreat
namespace Go.Proofs.YtapfhhmimkkhnaaGreat
open Go.RowKit Go.Maps
set_option linter.unusedVariables false
set_option maxRecDepth 100000
set_option maxHeartbeats 16000000
theorem tH_ (k p:Nat) (hk:k<p) (hp:p≤7) (te vo co ro:Int) (la:Option Addr) (lc:Nat) (va:Option Addr) (vn vc:Nat) (ma:Option Addr) (mn mc:Nat) (log:List En) (w:World):
  Calls Tryz.prog 170 #[.agg #[k,p,te,vo,.slice la log.length lc,co,ro,.slice va vn vc,.slice ma mn mc]] w fun e w'=>∃u,e= .returned (.agg #[k,p,te,vo,.slice la log.length lc,co,(2:Int),(),u])∧w'.ownsRow w.heap.size 3 1 u p ((mtZ p k log.length).map (.int .i64))∧Below w.heap.size w w':=by
 obtain⟨i0,hi,hz0,hz1,hz2⟩:=info_parts Tryz.info3;obtain⟨W0,hW0,hB,X,Y,_⟩:=al2 w [k,p,te,vo,.slice la log.length lc,co,(2:Int),(),.slice ma mn mc] 42 zN 42;have hzq:W0.heap.size=w.heap.size+1+1:=by rw [hW0];simp
 have hM0:(madeCells (Value.int .i64 0).cells (p*1)).toList=(List.replicate p (0:Int)).map (.int .i64):=by
  apply List.ext_getElem
  ·simp [madeCells]
  ·intro i h1 h2;simp [madeCells,Value.cells,Nat.mod_one]
 go_enter Tryz.func170,Tryz.ntmps170;go_wp2_with (at_make;refine zs_.go ?_);rw [←hW0];unfold zs_;refine wpList_make_full _ rfl _ _ 40 rfl (w.heap.size+1+1) 3 i0 _ 1 Tryz.underlying40 hi hz0 hz1 .i64 .i64 _ _ p rfl rfl rfl rfl (by rw [hz2];omega) (by unfold maxLen;omega) (by omega) ?_;intro w1 o1 hgr;rw [hM0,hzq] at o1;have hb:Below W0.heap.size W0 w1:=(Below.refl _ _).grown hgr (Nat.le_refl _) (by simp);clear hW0 hgr hi hz0 hz1 hz2 hM0;replace hB:=za_ hB hb;replace X:=X.below hb;replace Y:=Y.below hb;have hzl:=(xk_ o1).2;clear hb;obtain⟨xl,x0,x1,x2,x3,x4,x5,x6,x7,x8⟩:=X.e9;obtain⟨f0,f1,f2,f3,f4,f5,f6,f7,f8⟩:=X.f9;rw [hzq];clear hzq;go_upto_region 4 with fail;obtain⟨W1,hW1⟩:∃W,W=w1.setCell ⟨w.heap.size,8,none⟩ (.slice (some ⟨w.heap.size+1+1,0,none⟩) p p):=⟨_,rfl⟩;have hC:Chg (fun b=>b=w.heap.size) w1 W1:=by rw [hW1];exact Chg.setCell (S:=fun b=>b=w.heap.size) (Chg.refl _ _) rfl _
 replace X:Box W1 w.heap.size [k,p,te,vo,.slice la log.length lc,co,(2:Int),(),.slice (some ⟨w.heap.size+1+1,0,none⟩) p p]:=by rw [hW1];exact X.set 8 _ (by simp)
 replace Y:=hC.box Y (by omega);replace hB:=hB.trans (hC.below (B:=w.heap.size) hB.size (fun k hk=>by omega));replace o1:=hC.owns o1 (fun b hb hh=>by simp [Value.ownBlock] at hb;have hh:b=w.heap.size:=hh;omega);have hz1:=hC.size;rw [←hW1];clear hW1 hC xl x0 x1 x2 x3 x4 x5 x6 x7 x8 f0 f1 f2 f3 f4 f5 f6 f7 f8;obtain⟨xl,x0,x1,x2,x3,x4,x5,x6,x7,x8⟩:=X.e9;obtain⟨⟨u0,d0⟩,e0⟩:(∃v,W1.cell? ⟨w.heap.size+1+1,k,none⟩=some v)∧W1.frozen? ⟨w.heap.size+1+1,k,none⟩=false:=⟨by have:=yf_ o1 k (by omega);exact Option.isSome_iff_exists.1 this,o1.frozenAt k⟩;have o2:=(o1.stored k (.int .i64 log.length)).1;have eM:((List.replicate p (0:Int)).map (Value.int .i64)).set k (.int .i64 log.length)=(mtZ p k log.length).map (.int .i64):=by
  simp [mtZ,List.map_set]
 rw [eM] at o2;clear eM o1;obtain⟨W2,hW2⟩:∃W,W=W1.setCell ⟨w.heap.size+1+1,k,none⟩ (.int .i64 log.length):=⟨_,rfl⟩;rw [←hW2] at o2;have hC:Chg (fun b=>b=w.heap.size+1+1) W1 W2:=by rw [hW2];exact Chg.setCell (S:=fun b=>b=w.heap.size+1+1) (Chg.refl _ _) rfl _
 replace X:=hC.box X (by omega);replace Y:=hC.box Y (by omega);replace hB:=hB.trans (hC.below (B:=w.heap.size) hB.size (fun k hk=>by omega));have hz2:=hC.size;have hkb:(k:Int)<(p:Int):=by omega
 have hk0:(0:Int)≤(k:Int):=by omega
 go_upto_region 5 with fail;rw [←hW2];clear hW2 hC d0 e0 xl x0 x1 x2 x3 x4 x5 x6 x7 x8;have hC:=zk_ W2 (w.heap.size+1) k p te vo (.slice la log.length lc) co (.int .i64 2) () (.slice (some ⟨w.heap.size+1+1,0,none⟩) p p);have Z:=zl_ Y k p te vo (.slice la log.length lc) co (.int .i64 2) () (.slice (some ⟨w.heap.size+1+1,0,none⟩) p p);have hBE:=hB.trans (hC.below (B:=w.heap.size) hB.size (fun k hk=>by omega));have oE:=zf_ (hC.owns o2 (fun b hb hh=>by simp [Value.ownBlock] at hb;have hh:b=w.heap.size+1:=hh;omega)) (show w.heap.size≤w.heap.size+1+1 from by omega);obtain⟨xl,x0,x1,x2,x3,x4,x5,x6,x7,x8⟩:=X.e9;obtain⟨yl,y0,y1,y2,y3,y4,y5,y6,y7,y8⟩:=Y.e9;obtain⟨f0,f1,f2,f3,f4,f5,f6,f7,f8⟩:=Y.f9;clear hC X Y hB o2;obtain⟨tl,t0,t1,t2,t3,t4,t5,t6,t7,t8⟩:=Z.e9;clear Z;unfold put9 at*;go_wp2;exact bodyPost_ret (v:= .agg #[k,p,te,vo,.slice la log.length lc,co,(2:Int),(),.slice (some ⟨w.heap.size+1+1,0,none⟩) p p]) (by simp [results,Tryz.results170,go_sem,t0,t1,t2,t3,t4,t5,t6,t7,t8]) rfl ⟨_,rfl,oE,hBE⟩
theorem tJ_ (k p:Nat) (hk:k<p) (hp:p≤7) (te vo co ro:Int) (la:Option Addr) (lc:Nat) (va:Option Addr) (vn vc:Nat) (ma:Option Addr) (mn mc:Nat) (log:List En) (w:World) (hl:ER w (.slice la log.length lc) log) (nl:log.length≤1048576) (hc0:0≤co):
  Calls Tryz.prog 137 #[.agg #[k,p,te,vo,.slice la log.length lc,co,ro,.slice va vn vc,.slice ma mn mc]] w fun e w'=>∃u,e= .returned (.agg #[k,p,te,vo,.slice la log.length lc,(zv_ te p co log (mtZ p k log.length) log.length:Int),(2:Int),(),u])∧w'.ownsRow w.heap.size 3 1 u p ((mtZ p k log.length).map (.int .i64))∧Below w.heap.size w w':=by
 obtain⟨i0,hi,hz0,hz1,hz2⟩:=info_parts Tryz.info3;obtain⟨W0,hW0,hB,X,Y,_⟩:=al2 w [k,p,te,vo,.slice la log.length lc,co,(2:Int),(),.slice ma mn mc] 42 zN 42;have hzq:W0.heap.size=w.heap.size+1+1:=by rw [hW0];simp
 have hM0:(madeCells (Value.int .i64 0).cells (p*1)).toList=(List.replicate p (0:Int)).map (.int .i64):=by
  apply List.ext_getElem
  ·simp [madeCells]
  ·intro i h1 h2;simp [madeCells,Value.cells,Nat.mod_one]
 go_enter Tryz.func137,Tryz.ntmps137;go_wp2_with (at_make;refine zs_.go ?_);rw [←hW0];unfold zs_;refine wpList_make_full _ rfl _ _ 40 rfl (w.heap.size+1+1) 3 i0 _ 1 Tryz.underlying40 hi hz0 hz1 .i64 .i64 _ _ p rfl rfl rfl rfl (by rw [hz2];omega) (by unfold maxLen;omega) (by omega) ?_;intro w1 o1 hgr;rw [hM0,hzq] at o1;have hb:Below W0.heap.size W0 w1:=(Below.refl _ _).grown hgr (Nat.le_refl _) (by simp);clear hW0 hgr hi hz0 hz1 hz2 hM0;replace hB:=za_ hB hb;replace X:=X.below hb;replace Y:=Y.below hb;have hzl:=(xk_ o1).2;clear hb;obtain⟨xl,x0,x1,x2,x3,x4,x5,x6,x7,x8⟩:=X.e9;obtain⟨f0,f1,f2,f3,f4,f5,f6,f7,f8⟩:=X.f9;rw [hzq];clear hzq;go_upto_region 4 with fail;obtain⟨W1,hW1⟩:∃W,W=w1.setCell ⟨w.heap.size,8,none⟩ (.slice (some ⟨w.heap.size+1+1,0,none⟩) p p):=⟨_,rfl⟩;have hC:Chg (fun b=>b=w.heap.size) w1 W1:=by rw [hW1];exact Chg.setCell (S:=fun b=>b=w.heap.size) (Chg.refl _ _) rfl _
 replace X:Box W1 w.heap.size [k,p,te,vo,.slice la log.length lc,co,(2:Int),(),.slice (some ⟨w.heap.size+1+1,0,none⟩) p p]:=by rw [hW1];exact X.set 8 _ (by simp)
 replace Y:=hC.box Y (by omega);replace hB:=hB.trans (hC.below (B:=w.heap.size) hB.size (fun k hk=>by omega));replace o1:=hC.owns o1 (fun b hb hh=>by simp [Value.ownBlock] at hb;have hh:b=w.heap.size:=hh;omega);have hz1:=hC.size;rw [←hW1];clear hW1 hC xl x0 x1 x2 x3 x4 x5 x6 x7 x8 f0 f1 f2 f3 f4 f5 f6 f7 f8;obtain⟨xl,x0,x1,x2,x3,x4,x5,x6,x7,x8⟩:=X.e9;obtain⟨⟨u0,d0⟩,e0⟩:(∃v,W1.cell? ⟨w.heap.size+1+1,k,none⟩=some v)∧W1.frozen? ⟨w.heap.size+1+1,k,none⟩=false:=⟨by have:=yf_ o1 k (by omega);exact Option.isSome_iff_exists.1 this,o1.frozenAt k⟩;have o2:=(o1.stored k (.int .i64 log.length)).1;have eM:((List.replicate p (0:Int)).map (Value.int .i64)).set k (.int .i64 log.length)=(mtZ p k log.length).map (.int .i64):=by
  simp [mtZ,List.map_set]
 rw [eM] at o2;clear eM o1;obtain⟨W2,hW2⟩:∃W,W=W1.setCell ⟨w.heap.size+1+1,k,none⟩ (.int .i64 log.length):=⟨_,rfl⟩;rw [←hW2] at o2;have hC:Chg (fun b=>b=w.heap.size+1+1) W1 W2:=by rw [hW2];exact Chg.setCell (S:=fun b=>b=w.heap.size+1+1) (Chg.refl _ _) rfl _
 replace X:=hC.box X (by omega);replace Y:=hC.box Y (by omega);replace hB:=hB.trans (hC.below (B:=w.heap.size) hB.size (fun k hk=>by omega));have hz2:=hC.size;have hkb:(k:Int)<(p:Int):=by omega
 have hk0:(0:Int)≤(k:Int):=by omega
 go_upto_region 5 with fail;rw [←hW2];clear hW2 hC d0 e0 xl x0 x1 x2 x3 x4 x5 x6 x7 x8;have K:=yS_ k p te vo co (.slice la log.length lc) (.slice none 0 0) (.slice (some ⟨w.heap.size+1+1,0,none⟩) p p) log [] (mtZ p k log.length) W2 (hl.below hB) (ym_ (World.ownsRow_nil _ W2.heap.size 3 1) rfl) (ym_ o2 (by simp [mtZ])) nl (by simp [mtZ];omega) hc0;obtain⟨cx,HCX⟩:∃cx,Hid (zv_ te p co log (mtZ p k log.length) log.length=cx):=⟨zv_ te p co log (mtZ p k log.length) log.length,rfl⟩;rw [HCX.out] at K;obtain⟨xl,x0,x1,x2,x3,x4,x5,x6,x7,x8⟩:=X.e9;go_wp2_with fail;refine K.mono ?_;rintro e w3 ⟨rfl,hb⟩;clear K xl x0 x1 x2 x3 x4 x5 x6 x7 x8 X;replace hB:=za_ hB hb;replace Y:=Y.below hb;replace o2:=zd_ o2 hb;clear hb;have hC:=zk_ w3 (w.heap.size+1) k p te vo (.slice la log.length lc) cx (.int .i64 2) () (.slice (some ⟨w.heap.size+1+1,0,none⟩) p p);have Z:=zl_ Y k p te vo (.slice la log.length lc) cx (.int .i64 2) () (.slice (some ⟨w.heap.size+1+1,0,none⟩) p p);have hBE:=hB.trans (hC.below (B:=w.heap.size) hB.size (fun k hk=>by omega));have oE:=zf_ (hC.owns o2 (fun b hb hh=>by simp [Value.ownBlock] at hb;have hh:b=w.heap.size+1:=hh;omega)) (show w.heap.size≤w.heap.size+1+1 from by omega);obtain⟨yl,y0,y1,y2,y3,y4,y5,y6,y7,y8⟩:=Y.e9;obtain⟨f0,f1,f2,f3,f4,f5,f6,f7,f8⟩:=Y.f9;clear hC Y hB o2;obtain⟨tl,t0,t1,t2,t3,t4,t5,t6,t7,t8⟩:=Z.e9;clear Z;unfold put9 at*;go_wp2;exact bodyPost_ret (v:= .agg #[k,p,te,vo,.slice la log.length lc,cx,(2:Int),(),.slice (some ⟨w.heap.size+1+1,0,none⟩) p p]) (by simp [results,Tryz.results137,go_sem,t0,t1,t2,t3,t4,t5,t6,t7,t8]) rfl ⟨_,by rw [HCX.out],oE,hBE⟩
end Go.Proofs.YtapfhhmimkkhnaaGreat
