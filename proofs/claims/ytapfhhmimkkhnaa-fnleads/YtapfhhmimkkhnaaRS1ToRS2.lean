/-
  A step of a play, plainly; what is good stays good.
  A step of a play, plainly: its messages are good; the cluster behind it is good.
-/
import Derived.Test.YtapfhhmimkkhnaaM2bToH0
import Derived.Test.YtapfhhmimkkhnaaRF9ToCE
import Derived.Test.YtapfhhmimkkhnaaM3bToCO
import Derived.Test.YtapfhhmimkkhnaaG1
import Derived.Test.YtapfhhmimkkhnaaQ3ToQD
namespace Go.Proofs.Ytapfhhmimkkhnaa
set_option linter.unusedVariables false
structure Gd (x:Nd):Prop where
 p1:1≤x.pe
 p7:x.pe≤7
 i0:0≤x.id
 ip:x.id<x.pe
 t0:0≤x.te
 t1:x.te≤1000
 v0: -1≤x.vo
 vp:x.vo<x.pe
 lg:gE x.te 0 x.log=true
 ll:x.log.length≤60
 c0:0≤x.co
 cl:x.co≤(x.log.length:Int)
 ro:zC_ x.id x.pe x.te x.vo x.ro x.log.length x.vs x.mt=true
theorem Gd.of {x:Nd} (h:gN x=true):Gd x:=by
 unfold gN at h;rw [zK_] at h;simp only [Bool.and_eq_true,inB,decide_eq_true_eq] at h;obtain⟨⟨a1,a2⟩,⟨b1,b2⟩,⟨c1,c2⟩,⟨d1,d2⟩,⟨e1,e2⟩,⟨f1,f2⟩,_,g⟩:=h;exact⟨a1,a2,b1,by omega,c1,c2,d1,by omega,e1,by omega,f1,f2,g⟩
theorem ro_in {id pe te vo ro n:Int} {vs mt:List Int} (h:zC_ id pe te vo ro n vs mt=true):0≤ro∧ro≤2:=by
 by_cases h0:ro=0
 ·omega
 ·by_cases h1:ro=1
  ·omega
  ·by_cases h2:ro=2
   ·omega
   ·rw [goodRo_x _ _ _ _ _ _ _ _ h0 h1 h2] at h;cases h
theorem Gd.good {x:Nd} (h:Gd x):gN x=true:=by
 unfold gN;rw [zK_];have:=ro_in h.ro;simp only [Bool.and_eq_true,inB,decide_eq_true_eq];exact⟨⟨h.p1,h.p7⟩,⟨h.i0,by have:=h.ip;omega⟩,⟨h.t0,h.t1⟩,⟨h.v0,by have:=h.vp;omega⟩,⟨h.lg,by have:=h.ll;omega⟩,⟨h.c0,h.cl⟩,⟨this.1,this.2⟩,h.ro⟩
theorem Gd.r0 {x:Nd} (h:Gd x) (e:x.ro=0):x.vs= []∧x.mt= []:=by
 have:=h.ro;rw [e,goodRo_0] at this;simp only [Bool.and_eq_true,decide_eq_true_eq] at this;exact⟨List.eq_nil_iff_length_eq_zero.2 (by omega),List.eq_nil_iff_length_eq_zero.2 (by omega)⟩
theorem Gd.r1 {x:Nd} (h:Gd x) (e:x.ro=1):x.vo=x.id∧1≤x.te∧gV x.pe x.vs=true∧hsI x.vs x.id=true∧¬x.pe<2*(x.vs.length:Int)∧x.mt= []:=by
 have:=h.ro;rw [e,goodRo_1] at this;simp only [ownT,goodVs,Bool.and_eq_true,decide_eq_true_eq,Bool.not_eq_true',decide_eq_false_iff_not] at this;obtain⟨⟨⟨a,b⟩,c,d,f⟩,g⟩:=this;exact⟨a,b,c,d,f,List.eq_nil_iff_length_eq_zero.2 (by omega)⟩
theorem Gd.r2 {x:Nd} (h:Gd x) (e:x.ro=2):x.vo=x.id∧1≤x.te∧x.vs= []∧(x.mt.length:Int)=x.pe∧gM x.log.length x.mt=true∧x.mt.getD x.id.toNat 0=(x.log.length:Int):=by
 have:=h.ro;rw [e,goodRo_2] at this;simp only [ownT,goodMt,Bool.and_eq_true,decide_eq_true_eq] at this;obtain⟨⟨⟨a,b⟩,c⟩,d,f,g⟩:=this;exact⟨a,b,List.eq_nil_iff_length_eq_zero.2 (by omega),d,f,g⟩
theorem gM_all {n:Int} {mt:List Int} (h:gM n mt=true) (i:Nat) (hi:i<mt.length):0≤mt[i]∧mt[i]≤n:=by
 unfold gM at h;rw [List.all_eq_true] at h;have:=h mt[i] (List.getElem_mem hi);simpa using this
theorem gM_of {n:Int} {mt:List Int} (h:∀i (hi:i<mt.length),0≤mt[i]∧mt[i]≤n):gM n mt=true:=by
 unfold gM;rw [List.all_eq_true];intro v hv;obtain⟨i,hi,rfl⟩:=List.getElem_of_mem hv;simpa using h i hi
theorem gE_mono {T T':Int} (hT:T≤T') (l:List En):∀a,gE T a l=true→gE T' a l=true:=by
 induction l with
 | nil=>intro a _;rfl
 | cons e r ih=>
  intro a h;simp only [gE,Bool.and_eq_true,decide_eq_true_eq] at h ⊢;exact⟨⟨h.1.1,by omega⟩,ih _ h.2⟩
theorem gE_all {T:Int} {l:List En} :∀ {a:Int},gE T a l=true→∀i (h:i<l.length),yf_ l[i]=true∧a≤l[i].t∧l[i].t≤T:=by
 induction l with
 | nil=>intro a _ i h;simp at h
 | cons e r ih=>
  intro a h i hi;simp only [gE,Bool.and_eq_true,decide_eq_true_eq] at h
  cases i with
  | zero=>exact⟨h.1.1.1,h.1.1.2,h.1.2⟩
  | succ i=>
   have:=ih h.2 i (by simpa using hi);simp only [List.getElem_cons_succ];exact⟨this.1,by omega,this.2.2⟩
theorem gE_srt {T:Int} {l:List En} :∀ {a:Int},gE T a l=true→Srt l:=by
 induction l with
 | nil=>intro a _ i j hi;simp at hi
 | cons e r ih=>
  intro a h i j hi hj hij;simp only [gE,Bool.and_eq_true,decide_eq_true_eq] at h
  cases i with
  | zero=>
   cases j with
   | zero=>exact Int.le_refl _
   | succ j=>exact (gE_all h.2 j (by simpa using hj)).2.1
  | succ i=>
   cases j with
   | zero=>omega
   | succ j=>exact ih h.2 i j (by simpa using hi) (by simpa using hj) (by omega)
theorem gE_of {T:Int} {l:List En} :∀ {a:Int},(∀i (h:i<l.length),yf_ l[i]=true∧a≤l[i].t∧l[i].t≤T)→Srt l→gE T a l=true:=by
 induction l with
 | nil=>intro a _ _;rfl
 | cons e r ih=>
  intro a h hs;have h0:=h 0 (by simp);simp only [List.getElem_cons_zero] at h0;simp only [gE,Bool.and_eq_true,decide_eq_true_eq];refine⟨⟨⟨h0.1,h0.2.1⟩,h0.2.2⟩,ih (fun i hi=> ?_) (fun i j hi hj hij=> ?_)⟩
  ·have h1:=h (i+1) (by simpa using hi);simp only [List.getElem_cons_succ] at h1;have h2:=hs 0 (i+1) (by simp) (by simpa using hi) (by omega);simp only [List.getElem_cons_zero,List.getElem_cons_succ] at h2;exact⟨h1.1,h2,h1.2.2⟩
  ·have:=hs (i+1) (j+1) (by simpa using hi) (by simpa using hj) (by omega);simpa using this
theorem gE_take {T:Int} {l:List En} {a:Int} (h:gE T a l=true) (k:Nat):gE T a (l.take k)=true:=by
 refine gE_of (fun i hi=> ?_) (fun i j hi hj hij=> ?_)
 ·simp only [List.length_take] at hi;simp only [List.getElem_take];exact gE_all h i (by omega)
 ·simp only [List.length_take] at hi hj;simp only [List.getElem_take];exact gE_srt h i j (by omega) (by omega) hij
theorem gE_dropk {T:Int} {l:List En} {a:Int} (h:gE T a l=true) (k:Nat):gE T a (l.drop k)=true:=by
 refine gE_of (fun i hi=> ?_) (fun i j hi hj hij=> ?_)
 ·simp only [List.length_drop] at hi;simp only [List.getElem_drop];exact gE_all h _ (by omega)
 ·simp only [List.length_drop] at hi hj;simp only [List.getElem_drop];exact gE_srt h _ _ (by omega) (by omega) (by omega)
theorem Gd.up {x:Nd} (h:Gd x) {T:Int} (h1:x.te≤T) (h2:T≤1000):Gd (upN x T):=
 ⟨h.p1,h.p7,h.i0,h.ip,by have:=h.t0;show 0≤T;omega,h2,(by show (-1:Int)≤ -1;omega),by have:=h.p1;show (-1:Int)<x.pe;omega,gE_mono h1 _ _ h.lg,h.ll,h.c0,h.cl,by show zC_ _ _ _ _ 0 _ [] []=true;rw [goodRo_0];simp⟩
theorem Gd.fo {x:Nd} (h:Gd x):Gd (foN x):=
 ⟨h.p1,h.p7,h.i0,h.ip,h.t0,h.t1,h.v0,h.vp,h.lg,h.ll,h.c0,h.cl,by show zC_ _ _ _ _ 0 _ [] []=true;rw [goodRo_0];simp⟩
theorem Gd.hmU {x:Nd} (h:Gd x) {T:Int} (h2:T≤1000):Gd (hmU x T):=by
 unfold Go.Proofs.Ytapfhhmimkkhnaa.hmU
 split
 ·exact h.up (by omega) h2
 ·exact h
def crX (x:Nd):Nd:= { foN x with co:=0 }
theorem Gd.crash {x:Nd} (h:Gd x):Gd (crX x):=
 ⟨h.p1,h.p7,h.i0,h.ip,h.t0,h.t1,h.v0,h.vp,h.lg,h.ll,Int.le_refl _,by show (0:Int)≤_;omega,by show zC_ _ _ _ _ 0 _ [] []=true;rw [goodRo_0];simp⟩
theorem crX_settled (x:Nd):zv_ (crX x):=by simp [zv_,cmN,foN,crX]
def tmX (x:Nd):Nd:=tmN x.id x.pe x.te x.co x.log
def ofQ (q:Mq):Ms:=⟨q.ki,q.fr,q.dst,q.te,q.ix,q.be,q.co,q.ye,[]⟩
def tmA (x:Nd):List Ms:=(zT_ x.id (x.te+1) x.log.length (tmAt x.log x.log.length) x.pe.toNat).map ofQ
theorem Gd.tm {x:Nd} (h:Gd x) (ht:x.te<1000):Gd (tmX x):=by
 have h1:=h.p1;have h2:=h.i0;have h3:=h.ip;have h4:=h.t0;unfold tmX tmN
 split
 ·have e0:x.id=0:=by omega
  have e1:x.pe=1:=by omega
  refine⟨h.p1,h.p7,h.i0,h.ip,by dsimp only;omega,by dsimp only;omega,by dsimp only;omega,h.ip,gE_mono (show x.te≤x.te+1 by omega) _ _ h.lg,h.ll,h.c0,h.cl,?_⟩;show zC_ _ _ _ _ 2 _ [] [(x.log.length:Int)]=true;rw [goodRo_2,e0,e1];simp [ownT,goodMt,gM];omega
 ·refine⟨h.p1,h.p7,h.i0,h.ip,by dsimp only;omega,by dsimp only;omega,by dsimp only;omega,h.ip,gE_mono (show x.te≤x.te+1 by omega) _ _ h.lg,h.ll,h.c0,h.cl,?_⟩;show zC_ _ _ _ _ 1 _ [x.id] []=true;rw [goodRo_1];simp [ownT,goodVs,gV,vTo,vAt,isP,hsI];omega
theorem Gd.terms {x:Nd} (h:Gd x):∀k (hk:k<x.log.length),1≤x.log[k].t∧x.log[k].t≤x.te:=fun k hk=>by
 have:=gE_all h.lg k hk;have h1:=this.1;simp only [yf_,Bool.and_eq_true,decide_eq_true_eq] at h1;exact⟨by omega,this.2.2⟩
theorem Gd.tmAt {x:Nd} (h:Gd x) (i:Nat) (hi:i≤x.log.length):0≤tmAt x.log i∧tmAt x.log i≤x.te:=by
 unfold Go.Proofs.Ytapfhhmimkkhnaa.tmAt
 split
 ·exact⟨Int.le_refl _,h.t0⟩
 ·have h1:i-1<x.log.length:=by omega
  have h2:=h.terms (i-1) h1;have e:x.log.getD (i-1) En.zero=x.log[i-1]:=by simp [List.getD,h1]
  rw [e];omega
theorem tmX_settled {x:Nd} (h:Gd x):zv_ (tmX x):=by
 unfold zv_ tmX tmN
 split
 ·have e:zr_ (x.te+1) x.pe x.co x.log [(x.log.length:Int)] x.log.length=x.co:=comTo_none _ _ _ _ _ (fun k hk=>by have:=h.terms k hk;omega) _ (Nat.le_refl _);simp only [cmN,if_true,e]
 ·simp [cmN]
def prX (x:Nd) (d:ByteArray):Nd:=prN true x.id x.pe x.te x.vo x.co x.log x.vs x.mt d
theorem Gd.pr {x:Nd} (h:Gd x) (hr:x.ro=2) (d:ByteArray) (hl:x.log.length<60) (hd:(d.size:Int)≤100):Gd (prX x d):=by
 obtain⟨a,b,c,e,f,g⟩:=h.r2 hr;have h1:=h.p1;have h2:=h.i0;have h3:=h.ip;have h4:=h.t1;have h5:=h.c0;have h6:=h.cl;have hlen:(x.log++ [(⟨x.te,d⟩:En)]).length=x.log.length+1:=by simp
 have hc:=comTo_what x.te x.pe x.co (x.log++ [⟨x.te,d⟩]) (x.mt.set x.id.toNat ((x.log.length:Int)+1)) (x.log.length+1) (by rw [hlen];omega);refine⟨h.p1,h.p7,h.i0,h.ip,h.t0,h.t1,h.v0,h.vp,?_,?_,?_,?_,?_⟩
 ·show gE x.te 0 (x.log++ [⟨x.te,d⟩])=true;refine gE_of (fun i hi=> ?_) (fun i j hi hj hij=> ?_)
  ·rw [hlen] at hi;by_cases hil:i<x.log.length
   ·rw [List.getElem_append_left hil];exact gE_all h.lg i hil
   ·obtain rfl:i=x.log.length:=by omega
    rw [List.getElem_append_right (Nat.le_refl _)];simp [yf_];omega
  ·rw [hlen] at hi hj;by_cases hjl:j<x.log.length
   ·rw [List.getElem_append_left hjl,List.getElem_append_left (by omega)];exact gE_srt h.lg i j (by omega) hjl hij
   ·obtain rfl:j=x.log.length:=by omega
    rw [List.getElem_append_right (Nat.le_refl _)];by_cases hil:i<x.log.length
    ·rw [List.getElem_append_left hil];simpa using (h.terms i hil).2
    ·obtain rfl:i=x.log.length:=by omega
     rw [List.getElem_append_right (Nat.le_refl _)];exact Int.le_refl _
 ·show (x.log++ [(⟨x.te,d⟩:En)]).length≤60;rw [hlen];omega
 ·show 0≤zr_ _ _ _ _ _ _;rcases hc with e1 | ⟨q,hq,e1,_⟩ <;>rw [e1] <;>omega
 ·show zr_ _ _ _ _ _ _≤(((x.log++ [(⟨x.te,d⟩:En)]).length:Nat):Int);rcases hc with e1 | ⟨q,hq,e1,_⟩ <;>rw [e1] <;>omega
 ·show zC_ x.id x.pe x.te x.vo 2 (((x.log++ [(⟨x.te,d⟩:En)]).length:Nat):Int) x.vs (x.mt.set x.id.toNat ((x.log.length:Int)+1))=true;rw [goodRo_2,hlen,c];have hi:x.id.toNat<x.mt.length:=by omega
  have hm:gM ((x.log.length+1:Nat):Int) (x.mt.set x.id.toNat ((x.log.length:Int)+1))=true:=by
   refine gM_of fun i hi'=> ?_;simp only [List.length_set] at hi';rw [List.getElem_set]
   split
   ·omega
   ·have:=gM_all f i hi';omega
  have hg:(x.mt.set x.id.toNat ((x.log.length:Int)+1)).getD x.id.toNat 0=((x.log.length+1:Nat):Int):=by
   simp [List.getD,hi]
  simp only [ownT,goodMt,hm,hg,a,List.length_set,List.length_nil];simp;exact⟨b,e⟩
theorem prX_settled (x:Nd) (d:ByteArray):zv_ (prX x d):=by
 have:=cmN_settled ({ id:=x.id,pe:=x.pe,te:=x.te,vo:=x.vo,co:=x.co,ro:=2,log:=x.log++ [⟨x.te,d⟩],vs:=x.vs,mt:=x.mt.set x.id.toNat ((x.log.length:Int)+1) } :Nd);simpa [cmN,prX,prN] using this
theorem zD_ {pe ki fr dst te ix be co:Int} {ye:Bool} {es:List En} (h:goodM pe ki fr dst te ix be co ye es=true):pe≤7∧(0≤fr∧fr<pe)∧(0≤dst∧dst<pe)∧fr≠dst∧1≤te∧te≤1000∧zR_ ki te ix be co ye es=true:=by
 simp only [goodM,isP,Bool.and_eq_true,decide_eq_true_eq,Bool.not_eq_true',decide_eq_false_iff_not] at h;obtain⟨⟨⟨⟨⟨⟨a,b⟩,c⟩,d⟩,e⟩,f⟩,g⟩:=h;exact⟨a,b,c,d,e,f,g⟩
theorem goodM_of {pe ki fr dst te ix be co:Int} {ye:Bool} {es:List En} (a:pe≤7) (b:0≤fr∧fr<pe) (c:0≤dst∧dst<pe) (d:fr≠dst) (e:1≤te) (f:te≤1000) (g:zR_ ki te ix be co ye es=true):goodM pe ki fr dst te ix be co ye es=true:=by
 simp only [goodM,isP,Bool.and_eq_true,decide_eq_true_eq,Bool.not_eq_true',decide_eq_false_iff_not];exact⟨⟨⟨⟨⟨⟨a,b⟩,c⟩,d⟩,e⟩,f⟩,g⟩
theorem kind_1 {te ix be co:Int} {ye:Bool} {es:List En} (h:zR_ 1 te ix be co ye es=true):(0≤ix∧ix≤60∧0≤be∧be≤1000)∧es= []∧co=0∧ye=false:=by
 simp only [zR_,if_true,zW_,carB,Bool.and_eq_true,decide_eq_true_eq,Bool.not_eq_true',Bool.or_eq_false_iff,decide_eq_false_iff_not,Bool.not_eq_false'] at h;obtain⟨⟨⟨⟨⟨a,b⟩,c⟩,d⟩,e,f⟩,g⟩:=h;exact⟨⟨a,b,c,d⟩,List.eq_nil_iff_length_eq_zero.2 (by omega),f,g⟩
theorem kind_2 {te ix be co:Int} {ye:Bool} {es:List En} (h:zR_ 2 te ix be co ye es=true):ix=0∧be=0∧es= []∧co=0:=by
 simp [zR_,carB] at h;obtain⟨⟨a,b⟩,c,d⟩:=h;exact⟨a,b,List.eq_nil_iff_length_eq_zero.2 (by first | omega | simp [c]),d⟩
theorem kind_3 {te ix be co:Int} {ye:Bool} {es:List En} (h:zR_ 3 te ix be co ye es=true):(0≤ix∧ix≤60∧0≤be∧be≤1000)∧ix+(es.length:Int)≤60∧gE te 0 es=true∧0≤co∧co≤60∧ye=false:=by
 have e:zR_ 3 te ix be co ye es=(zW_ ix be&&loadB te ix co es&& !ye):=by simp [zR_]
 rw [e] at h;simp only [zW_,loadB,Bool.and_eq_true,decide_eq_true_eq,Bool.not_eq_true'] at h;obtain⟨⟨⟨⟨⟨a,b⟩,c⟩,d⟩,⟨⟨f,g⟩,i⟩,j⟩,k⟩:=h;exact⟨⟨a,b,c,d⟩,f,g,i,j,k⟩
theorem kind_4 {te ix be co:Int} {ye:Bool} {es:List En} (h:zR_ 4 te ix be co ye es=true):(0≤ix∧ix≤60)∧be=0∧es= []∧co=0:=by
 have e:zR_ 4 te ix be co ye es=(zW_ ix be&&decide (be=0)&& !carB es.length co):=by simp [zR_]
 rw [e] at h;simp only [zW_,carB,Bool.and_eq_true,decide_eq_true_eq,Bool.not_eq_true',Bool.or_eq_false_iff,decide_eq_false_iff_not,Bool.not_eq_false'] at h;obtain⟨⟨⟨⟨⟨a,b⟩,c⟩,d⟩,f⟩,g,i⟩:=h;exact⟨⟨a,b⟩,f,List.eq_nil_iff_length_eq_zero.2 (by omega),i⟩
theorem kind_in {ki te ix be co:Int} {ye:Bool} {es:List En} (h:zR_ ki te ix be co ye es=true):ki=1∨ki=2∨ki=3∨ki=4:=by
 by_cases h1:ki=1
 ·exact .inl h1
 ·by_cases h2:ki=2
  ·exact .inr (.inl h2)
  ·by_cases h3:ki=3
   ·exact .inr (.inr (.inl h3))
   ·by_cases h4:ki=4
    ·exact .inr (.inr (.inr h4))
    ·simp [zR_,h1,h2,h3,h4] at h
theorem kind1_of {te ix be:Int} (a:0≤ix) (b:ix≤60) (c:0≤be) (d:be≤1000):zR_ 1 te ix be 0 false []=true:=by
 simp [zR_,zW_,carB,a,b,c,d]
theorem kind2_of {te:Int} (ye:Bool):zR_ 2 te 0 0 0 ye []=true:=by simp [zR_,carB]
theorem kind3_of {te ix be co:Int} {es:List En} (a:0≤ix) (b:ix≤60) (c:0≤be) (d:be≤1000) (e:ix+(es.length:Int)≤60) (f:gE te 0 es=true) (g:0≤co) (i:co≤60):zR_ 3 te ix be co false es=true:=by
 simp [zR_,zW_,loadB,a,b,c,d,e,f,g,i]
theorem kind4_of {te ix:Int} (ye:Bool) (a:0≤ix) (b:ix≤60):zR_ 4 te ix 0 0 ye []=true:=by
 simp [zR_,zW_,carB,a,b]
def GM (p:Nat) (m:Ms):Prop:=gMs p m=true
theorem hmU_id (x:Nd) (t:Int):(hmU x t).id=x.id∧(hmU x t).pe=x.pe:=by
 unfold hmU;split <;>exact⟨rfl,rfl⟩
theorem vbN_id (x:Nd) (f:Int):(vbN x f).id=x.id∧(vbN x f).pe=x.pe∧(vbN x f).te=x.te:=by
 unfold vbN
 split
 ·exact⟨rfl,rfl,rfl⟩
 ·split <;>exact⟨rfl,rfl,rfl⟩
theorem hmN_id (x:Nd) (m:Ms):(hmN x m).id=x.id∧(hmN x m).pe=x.pe∧(hmN x m).te=x.te:=by
 unfold hmN
 split
 ·unfold askN;split <;>exact⟨rfl,rfl,rfl⟩
 ·split
  ·unfold votN;split
   ·exact vbN_id _ _
   ·exact⟨rfl,rfl,rfl⟩
  ·split
   ·unfold appN;split
    ·exact⟨rfl,rfl,rfl⟩
    ·split <;>exact⟨rfl,rfl,rfl⟩
   ·unfold tolN;split <;>exact⟨rfl,rfl,rfl⟩
theorem cmN_id (x:Nd):(cmN x).id=x.id∧(cmN x).pe=x.pe∧(cmN x).te=x.te:=by
 unfold cmN;split <;>exact⟨rfl,rfl,rfl⟩
theorem hmX_id (x:Nd) (m:Ms):(hmX x m).id=x.id∧(hmX x m).pe=x.pe:=by
 unfold hmX;have a:=cmN_id (hmN (hmU x m.te) m);have b:=hmN_id (hmU x m.te) m;have c:=hmU_id x m.te;exact⟨a.1.trans (b.1.trans c.1),a.2.1.trans (b.2.1.trans c.2)⟩
theorem hmU_te (x:Nd) (t:Int):(hmU x t).te=max x.te t:=by
 unfold hmU;split
 ·show t=_;omega
 ·omega
theorem hmA_good {p:Nat} {x:Nd} {m:Ms} (h:Gd x) (hp:x.pe=p) (hm:GM p m) (hd:m.dst=x.id):∀a∈hmA (hmU x m.te) m,GM p a:=by
 obtain⟨a1,a2,a3,a4,a5,a6,a7⟩:=zD_ hm;have ht:=hmU_te x m.te;have hi:=(hmU_id x m.te).1;have h1:=h.t1;intro a ha;unfold hmA at ha
 split at ha
 ·obtain rfl:=List.mem_singleton.1 ha;refine goodM_of a1 ?_ a2 ?_ ?_ ?_ (kind2_of _)
  ·show 0≤(hmU x m.te).id∧(hmU x m.te).id<(p:Int);rw [hi];omega
  ·show (hmU x m.te).id≠m.fr;rw [hi];omega
  ·show 1≤(hmU x m.te).te;omega
  ·show (hmU x m.te).te≤1000;omega
 ·split at ha
  ·rename_i h1' h3
   obtain rfl:=List.mem_singleton.1 ha;rw [h3] at a7;obtain⟨⟨k1,k2,k3,k4⟩,k5,k6,k7,k8,k9⟩:=kind_3 a7;have hl:(hmU x m.te).log.length≤60:=(h.hmU a6).ll;have gg:∀(ix:Int) (ye:Bool),0≤ix→ix≤60→GM p (msN 4 (hmU x m.te).id m.fr (hmU x m.te).te ix ye):=fun ix ye i0 i1=>
    goodM_of a1 (by show 0≤(hmU x m.te).id∧(hmU x m.te).id<(p:Int);rw [hi];omega) a2 (by show (hmU x m.te).id≠m.fr;rw [hi];omega) (by show 1≤(hmU x m.te).te;omega) (by show (hmU x m.te).te≤1000;omega) (kind4_of _ i0 i1)
   unfold appM
   split
   ·exact gg _ _ (by omega) (by omega)
   ·split
    ·exact gg _ _ (by omega) (by omega)
    ·refine gg _ _ ?_ ?_ <;>unfold noIx <;>omega
  ·simp at ha
theorem asksTo_mem {id te n b:Int} {k:Nat} {q:Mq} (h:q∈zT_ id te n b k):∃j:Nat,j<k∧(j:Int)≠id∧q=⟨1,id,j,te,n,b,0,false⟩:=by
 induction k with
 | zero=>simp [zT_] at h
 | succ k ih=>
  simp only [zT_,List.mem_append] at h;rcases h with h | h
  ·obtain⟨j,a,b,c⟩:=ih h;exact⟨j,by omega,b,c⟩
  ·split at h
   ·simp at h
   ·rename_i hne
    exact⟨k,by omega,hne,List.mem_singleton.1 h⟩
theorem tmA_mem {x:Nd} {a:Ms} (h:a∈tmA x):∃j:Nat,j<x.pe.toNat∧(j:Int)≠x.id∧a=⟨1,x.id,j,x.te+1,x.log.length,tmAt x.log x.log.length,0,false,[]⟩:=by
 unfold tmA at h;obtain⟨q,hq,rfl⟩:=List.mem_map.1 h;obtain⟨j,a,b,rfl⟩:=asksTo_mem hq;exact⟨j,a,b,rfl⟩
theorem tmA_good {p:Nat} {x:Nd} (h:Gd x) (hp:x.pe=p) (ht:x.te<1000):∀a∈tmA x,GM p a:=by
 intro a ha;obtain⟨j,h1,h2,rfl⟩:=tmA_mem ha;have:=h.p7;have:=h.i0;have:=h.ip;have:=h.t0;have:=h.ll;have hb:=h.tmAt x.log.length (Nat.le_refl _);exact goodM_of (by omega) (by dsimp only;omega) (by dsimp only;omega) (by dsimp only;omega) (by dsimp only;omega) (by dsimp only;omega) (kind1_of (by dsimp only;omega) (by dsimp only;omega) hb.1 (by dsimp only;omega))
def afX (x:Nd) (peer many:Int):Ms:=afM true x.id x.te x.co peer many x.log x.mt
theorem afX_good {p:Nat} {x:Nd} (h:Gd x) (hp:x.pe=p) {peer many:Int} (ho:afOk (gN x) x.id x.pe x.ro peer many=true):GM p (afX x peer many):=by
 simp only [afOk,isP,Bool.and_eq_true,decide_eq_true_eq,Bool.not_eq_true',decide_eq_false_iff_not] at ho;obtain⟨_,hr,⟨b1,b2⟩,b3,b4,b5⟩:=ho;obtain⟨r1,r2,r3,r4,r5,r6⟩:=h.r2 hr;have:=h.p7;have:=h.i0;have:=h.ip;have:=h.t0;have:=h.t1;have:=h.ll;have:=h.c0;have:=h.cl;have hi:peer.toNat<x.mt.length:=by omega
 have hm:=gM_all r5 peer.toNat hi;have hg:x.mt.getD peer.toNat 0=x.mt[peer.toNat]:=by simp [List.getD,hi]
 have hb:=h.tmAt (x.mt[peer.toNat]).toNat (by omega);refine goodM_of (by omega) ?_ ?_ ?_ ?_ ?_ ?_
 ·show 0≤x.id∧x.id<(p:Int);omega
 ·show 0≤peer∧peer<(p:Int);omega
 ·show x.id≠peer;omega
 ·show 1≤x.te;omega
 ·show x.te≤1000;omega
 ·show zR_ 3 x.te (x.mt.getD peer.toNat 0) (tmAt x.log (x.mt.getD peer.toNat 0).toNat) x.co false (afE x.log (x.mt.getD peer.toNat 0).toNat many.toNat)=true;rw [hg];have hl:(afE x.log (x.mt[peer.toNat]).toNat many.toNat).length≤x.log.length-(x.mt[peer.toNat]).toNat:=by
   unfold afE;simp only [List.length_take,List.length_drop];omega
  exact kind3_of hm.1 (by omega) hb.1 (by omega) (by omega) (gE_take (gE_dropk h.lg _) _) (by omega) (by omega)
structure Sp where
 ki:Int
 no:Int
 k:Int
 ma:Int
 d:ByteArray
def atN (N:List Nd) (i:Int):Nd:=N.getD i.toNat Nd.zero
def atM (M:List Ms) (k:Int):Ms:=M.getD k.toNat Ms.zero
def pushM (M A:List Ms):List Ms:=M++A.take (60-M.length)
def zQ_ (L:List Ld) (a x:Nd):List Ld:=if x.ro=2∧¬(a.ro=2∧a.te=x.te)∧L.length<1000 then L++ [⟨x.te,x.id⟩] else L
def stB (N:List Nd) (M:List Ms) (s:Sp):Bool:=
 if s.ki=1 then isP s.no N.length&&tmOk (gN (atN N s.no)) (atN N s.no).ro (atN N s.no).te
 else if s.ki=2 then isP s.k M.length&&hmOk (atN N (atM M s.k).dst) (atM M s.k)
 else if s.ki=3 then isP s.k M.length
 else if s.ki=4 then isP s.k M.length&&decide (M.length<60)
 else if s.ki=5 then isP s.no N.length&&prOk (gN (atN N s.no)) (atN N s.no).ro (atN N s.no).log.length s.d
 else if s.ki=6 then isP s.no N.length&&afOk (gN (atN N s.no)) (atN N s.no).id (atN N s.no).pe (atN N s.no).ro s.k s.ma
 else if s.ki=7 then isP s.no N.length&&gN (atN N s.no)
 else false
def stN (N:List Nd) (M:List Ms) (s:Sp):List Nd:=
 if s.ki=1 then N.set s.no.toNat (tmX (atN N s.no))
 else if s.ki=2 then N.set (atM M s.k).dst.toNat (hmX (atN N (atM M s.k).dst) (atM M s.k))
 else if s.ki=5 then N.set s.no.toNat (prX (atN N s.no) s.d)
 else if s.ki=7 then N.set s.no.toNat (crX (atN N s.no))
 else N
def stM (N:List Nd) (M:List Ms) (s:Sp):List Ms:=
 if s.ki=1 then pushM M (tmA (atN N s.no))
 else if s.ki=2 then pushM (M.eraseIdx s.k.toNat) (hmA (hmU (atN N (atM M s.k).dst) (atM M s.k).te) (atM M s.k))
 else if s.ki=3 then M.eraseIdx s.k.toNat
 else if s.ki=4 then pushM M [atM M s.k]
 else if s.ki=6 then pushM M [afX (atN N s.no) s.k s.ma]
 else M
def stL (N:List Nd) (M:List Ms) (L:List Ld) (s:Sp):List Ld:=
 if s.ki=1 then zQ_ L (atN N s.no) (tmX (atN N s.no))
 else if s.ki=2 then zQ_ L (atN N (atM M s.k).dst) (hmX (atN N (atM M s.k).dst) (atM M s.k))
 else L
structure PG (p:Nat) (N:List Nd) (M:List Ms) (L:List Ld):Prop where
 p1:1≤p
 p7:p≤7
 n:N.length=p
 g:∀j (h:j<N.length),Gd N[j]∧N[j].id=(j:Int)∧N[j].pe=(p:Int)∧zv_ N[j]
 m6:M.length≤60
 m:∀m∈M,GM p m
 l:L.length≤1000
 lg:∀l∈L,ldOk p l=true
theorem PG.good {p:Nat} {N:List Nd} {M:List Ms} {L:List Ld} (h:PG p N M L):goodC N M L=true:=by
 have hn:=h.n;have:=h.p1;have:=h.p7;have:=h.m6;have:=h.l;subst hn;simp only [goodC,nodesOk,netOk,leadsOk,Bool.and_eq_true,decide_eq_true_eq];refine⟨⟨by omega,by omega⟩,fun i hi=> ?_,by omega,fun i hi=>h.m _ (List.getElem_mem hi),by omega,fun i hi=>h.lg _ (List.getElem_mem hi)⟩;obtain⟨a,b,c,_⟩:=h.g i hi;simp only [ndOk,Bool.and_eq_true,decide_eq_true_eq];exact⟨a.good,b,c⟩
theorem atN_eq {N:List Nd} {i:Int} (h:isP i N.length=true):∃h2:i.toNat<N.length,atN N i=N[i.toNat]∧((i.toNat:Nat):Int)=i:=by
 simp only [isP,Bool.and_eq_true,decide_eq_true_eq] at h;have h2:i.toNat<N.length:=by omega
 exact⟨h2,by simp [atN,List.getD,h2],by omega⟩
theorem atM_eq {M:List Ms} {i:Int} (h:isP i M.length=true):∃h2:i.toNat<M.length,atM M i=M[i.toNat]∧((i.toNat:Nat):Int)=i:=by
 simp only [isP,Bool.and_eq_true,decide_eq_true_eq] at h;have h2:i.toNat<M.length:=by omega
 exact⟨h2,by simp [atM,List.getD,h2],by omega⟩
theorem pushM_len (M A:List Ms) (h:M.length≤60):(pushM M A).length≤60:=by
 unfold pushM;simp only [List.length_append,List.length_take];omega
theorem pushM_mem {M A:List Ms} {m:Ms} (h:m∈pushM M A):m∈M∨m∈A:=by
 unfold pushM at h;rcases List.mem_append.1 h with h | h
 ·exact .inl h
 ·exact .inr (List.mem_of_mem_take h)
theorem noteL_len (L:List Ld) (a x:Nd) (h:L.length≤1000):(zQ_ L a x).length≤1000:=by
 unfold zQ_;split
 ·simp;omega
 ·exact h
theorem noteL_mem {L:List Ld} {a x:Nd} {l:Ld} (h:l∈zQ_ L a x):l∈L∨(x.ro=2∧l=⟨x.te,x.id⟩):=by
 unfold zQ_ at h
 split at h
 ·rename_i hc
  rcases List.mem_append.1 h with h | h
  ·exact .inl h
  ·exact .inr ⟨hc.1,List.mem_singleton.1 h⟩
 ·exact .inl h
theorem PG.set {p:Nat} {N:List Nd} {M M':List Ms} {L:List Ld} (h:PG p N M L) (j:Nat) (hj:j<N.length) (x:Nd) (hx:Gd x) (hi:x.id=N[j].id) (hp:x.pe=N[j].pe) (hs:zv_ x) (hM:M'.length≤60) (hm:∀m∈M',m∈M∨GM p m) (a:Nd):PG p (N.set j x) M' (zQ_ L a x):=by
 refine⟨h.p1,h.p7,by simp [h.n],fun i hi'=> ?_,hM,fun m hm'=> ?_,noteL_len _ _ _ h.l,fun l hl=> ?_⟩
 ·simp only [List.length_set] at hi';rw [List.getElem_set]
  split
  ·rename_i e
   subst e;obtain⟨_,b,c,_⟩:=h.g j hj;exact⟨hx,by rw [hi,b],by rw [hp,c],hs⟩
  ·exact h.g i hi'
 ·rcases hm m hm' with h1 | h1
  ·exact h.m m h1
  ·exact h1
 ·rcases noteL_mem hl with h1 | ⟨h1,rfl⟩
  ·exact h.lg l h1
  ·obtain⟨_,b,c,_⟩:=h.g j hj;have:=hx.r2 h1;have:=hx.t1;have:=hx.i0;have:=hx.ip;simp only [ldOk,isP,Bool.and_eq_true,decide_eq_true_eq];omega
theorem PG.setN {p:Nat} {N:List Nd} {M M':List Ms} {L:List Ld} (h:PG p N M L) (j:Nat) (hj:j<N.length) (x:Nd) (hx:Gd x) (hi:x.id=N[j].id) (hp:x.pe=N[j].pe) (hs:zv_ x) (hM:M'.length≤60) (hm:∀m∈M',m∈M∨GM p m):PG p (N.set j x) M' L:=by
 have:=h.set j hj x hx hi hp hs hM hm { x with ro:=2 };have e:zQ_ L { x with ro:=2 } x=L:=by simp [zQ_]
 rwa [e] at this
theorem PG.net {p:Nat} {N:List Nd} {M M':List Ms} {L:List Ld} (h:PG p N M L) (hM:M'.length≤60) (hm:∀m∈M',m∈M∨GM p m):PG p N M' L:=
 ⟨h.p1,h.p7,h.n,h.g,hM,fun m hm'=>by rcases hm m hm' with h1 | h1;exact h.m m h1;exact h1,h.l,h.lg⟩
theorem tmN_id (id pe te co:Int) (log:List En):(tmN id pe te co log).id=id∧(tmN id pe te co log).pe=pe:=by unfold tmN;split <;>exact⟨rfl,rfl⟩
theorem PG.step {p:Nat} {N:List Nd} {M:List Ms} {L:List Ld} (h:PG p N M L) (s:Sp) (hs:stB N M s=true):PG p (stN N M s) (stM N M s) (stL N M L s):=by
 have hm6:=h.m6;by_cases e1:s.ki=1
 ·simp only [stB,stN,stM,stL,e1,if_true,Bool.and_eq_true] at hs ⊢;obtain⟨h2,ea,ei⟩:=atN_eq hs.1;obtain⟨g1,g2,g3,g4⟩:=h.g _ h2;have ht:(N[s.no.toNat]).te<1000:=by
   have:=hs.2;rw [ea] at this;simp only [tmOk,Bool.and_eq_true,decide_eq_true_eq] at this;exact this.2.2
  rw [ea];exact h.set _ h2 _ (g1.tm ht) (tmN_id _ _ _ _ _).1 (tmN_id _ _ _ _ _).2 (tmX_settled g1) (pushM_len _ _ hm6) (fun m hm=>(pushM_mem hm).imp id (tmA_good g1 g3 ht m)) _
 by_cases e2:s.ki=2
 ·simp only [stB,stN,stM,stL,e2,if_true,Bool.and_eq_true,show ¬(2:Int)=1 by decide,if_false] at hs ⊢;obtain⟨hk,ek,_⟩:=atM_eq hs.1;rw [ek] at hs ⊢;have hgm:=h.m _ (List.getElem_mem hk);have hP:=hs.2;simp only [hmOk,hmP,Bool.and_eq_true,decide_eq_true_eq] at hP;have hdst:=(zD_ hgm).2.2.1;have hid:isP (M[s.k.toNat]).dst N.length=true:=by simp only [isP,Bool.and_eq_true,decide_eq_true_eq];rw [h.n];exact hdst
  obtain⟨h2,ea,ei⟩:=atN_eq hid;rw [ea] at hP ⊢;obtain⟨g1,g2,g3,g4⟩:=h.g _ h2;have hx:=Gd.of hP.2.2;refine h.set _ h2 _ hx (hmX_id _ _).1 (hmX_id _ _).2 (cmN_settled _) (pushM_len _ _ ?_) (fun m hm=> ?_) _
  ·have:=List.length_eraseIdx_le M s.k.toNat;omega
  ·rcases pushM_mem hm with q | q
   ·exact .inl (List.mem_of_mem_eraseIdx q)
   ·exact .inr (hmA_good g1 g3 hgm (by rw [g2];exact ei.symm) m q)
 by_cases e3:s.ki=3
 ·simp only [stB,stN,stM,stL,e3,if_true,show ¬(3:Int)=1 by decide,show ¬(3:Int)=2 by decide,show ¬(3:Int)=5 by decide,show ¬(3:Int)=7 by decide,if_false] at hs ⊢;exact h.net (by have:=List.length_eraseIdx_le M s.k.toNat;omega) (fun m hm=> .inl (List.mem_of_mem_eraseIdx hm))
 by_cases e4:s.ki=4
 ·simp only [stB,stN,stM,stL,e4,if_true,show ¬(4:Int)=1 by decide,show ¬(4:Int)=2 by decide,show ¬(4:Int)=3 by decide,show ¬(4:Int)=5 by decide,show ¬(4:Int)=7 by decide,if_false,Bool.and_eq_true] at hs ⊢;obtain⟨hk,ek,_⟩:=atM_eq hs.1;rw [ek];refine h.net (pushM_len _ _ hm6) (fun m hm=> ?_);rcases pushM_mem hm with q | q
  ·exact .inl q
  ·exact .inl (by rw [List.mem_singleton.1 q];exact List.getElem_mem hk)
 by_cases e5:s.ki=5
 ·simp only [stB,stN,stM,stL,e5,if_true,show ¬(5:Int)=1 by decide,show ¬(5:Int)=2 by decide,show ¬(5:Int)=3 by decide,show ¬(5:Int)=4 by decide,show ¬(5:Int)=6 by decide,if_false,Bool.and_eq_true] at hs ⊢;obtain⟨h2,ea,ei⟩:=atN_eq hs.1;rw [ea] at hs ⊢;obtain⟨g1,g2,g3,g4⟩:=h.g _ h2;have hP:=hs.2;simp only [prOk,Bool.and_eq_true,decide_eq_true_eq] at hP;exact h.setN _ h2 _ (g1.pr hP.2.1 s.d (by omega) hP.2.2.2) rfl rfl (prX_settled _ _) hm6 (fun m hm=> .inl hm)
 by_cases e6:s.ki=6
 ·simp only [stB,stN,stM,stL,e6,if_true,show ¬(6:Int)=1 by decide,show ¬(6:Int)=2 by decide,show ¬(6:Int)=3 by decide,show ¬(6:Int)=4 by decide,show ¬(6:Int)=5 by decide,show ¬(6:Int)=7 by decide,if_false,Bool.and_eq_true] at hs ⊢;obtain⟨h2,ea,ei⟩:=atN_eq hs.1;rw [ea] at hs ⊢;obtain⟨g1,g2,g3,g4⟩:=h.g _ h2;refine h.net (pushM_len _ _ hm6) (fun m hm=> ?_);rcases pushM_mem hm with q | q
  ·exact .inl q
  ·exact .inr (by rw [List.mem_singleton.1 q];exact afX_good g1 g3 hs.2)
 by_cases e7:s.ki=7
 ·simp only [stB,stN,stM,stL,e7,if_true,show ¬(7:Int)=1 by decide,show ¬(7:Int)=2 by decide,show ¬(7:Int)=3 by decide,show ¬(7:Int)=4 by decide,show ¬(7:Int)=5 by decide,show ¬(7:Int)=6 by decide,if_false,Bool.and_eq_true] at hs ⊢;obtain⟨h2,ea,ei⟩:=atN_eq hs.1;rw [ea];obtain⟨g1,g2,g3,g4⟩:=h.g _ h2;exact h.setN _ h2 _ g1.crash rfl rfl (crX_settled _) hm6 (fun m hm=> .inl hm)
 ·simp [stB,e1,e2,e3,e4,e5,e6,e7] at hs
end Go.Proofs.Ytapfhhmimkkhnaa
