/-
  A message is good: the specification's side.
  A good cluster: the program's side.
  Marks, plainly.
  Nodes in a row, marked: markRaftNodeS.
  Messages in a row, marked: markRaftMsgS.
  A cluster marked: markLeadS, markCluster.
  A cluster held against its marks: heldRaftNodeS, heldRaftMsgS, heldLeadS, heldCluster.
  NewNode: both sides and the law's walk.
  NewCluster: both sides.
-/
import Derived.Test.YtapfhhmimkkhnaaGreatM2bToH0
import Derived.Test.YtapfhhmimkkhnaaGreatCAToCE
namespace Go.Proofs.YtapfhhmimkkhnaaGreat
open Go.RowKit
set_option linter.unusedVariables false
set_option maxRecDepth 100000
set_option maxHeartbeats 8000000
def va_ (ki te ix be co:Int) (ye:Bool) (es:List En):Bool:=
 if ki=3 then !ye&&((gE te 0 es&&decide ((es.length:Int)≤60))&&decide (ix+(es.length:Int)≤60))
 else !carB es.length co&&(if ki=1 then !ye else if ki=2 then decide (ix=0)&&decide (be=0) else decide (ki=4)&&decide (be=0))
theorem qn_ (pe ki fr dst te ix be co:Int) (ye:Bool) (es:List En):xg_ pe ki fr dst te ix be co ye es=
  (inB pe 1 7&&(!decide (fr=dst)&&(inB fr 0 (pe-1)&&(inB dst 0 (pe-1)&&(inB te 1 1000&&(inB ix 0 60&&(inB be 0 1000&&(inB co 0 60&&va_ ki te ix be co ye es)))))))):=by
 unfold xg_ va_;by_cases k1:ki=1
 ·subst k1;rw [pb_];unfold carB;generalize es.length=n;rw [Bool.eq_iff_iff]
  cases ye <;>simp [ya_,inB,isP] <;>omega
 by_cases k2:ki=2
 ·subst k2;rw [pa_];unfold carB;generalize es.length=n;rw [Bool.eq_iff_iff];simp [inB,isP];omega
 by_cases k3:ki=3
 ·subst k3;rw [qZ_];unfold uu_;generalize es.length=n;generalize gE te 0 es=g;rw [Bool.eq_iff_iff]
  cases ye <;>cases g <;>simp [ya_,inB,isP] <;>omega
 by_cases k4:ki=4
 ·subst k4;rw [qY_];unfold carB;generalize es.length=n;rw [Bool.eq_iff_iff];simp [ya_,inB,isP];omega
 ·rw [qX_ _ _ _ _ _ _ _ k1 k2 k3 k4];simp [k1,k2,k3,k4]
theorem restB_3 (te ix be co:Int) (ye:Bool) (es:List En):va_ 3 te ix be co ye es=(!ye&&((gE te 0 es&&decide ((es.length:Int)≤60))&&decide (ix+(es.length:Int)≤60))):=by simp [va_]
theorem restB_1 (te ix be co:Int) (ye:Bool) (es:List En):va_ 1 te ix be co ye es=(!carB es.length co&& !ye):=by simp [va_]
theorem restB_2 (te ix be co:Int) (ye:Bool) (es:List En):va_ 2 te ix be co ye es=(!carB es.length co&&(decide (ix=0)&&decide (be=0))):=by simp [va_]
theorem restB_4 (te ix be co:Int) (ye:Bool) (es:List En):va_ 4 te ix be co ye es=(!carB es.length co&&decide (be=0)):=by simp [va_]
theorem restB_x (ki te ix be co:Int) (ye:Bool) (es:List En) (h1:¬ki=1) (h2:¬ki=2) (h3:¬ki=3) (h4:¬ki=4):va_ ki te ix be co ye es=false:=by simp [va_,h1,h2,h3,h4]
theorem ys_ (pe ki fr dst te ix be co:Int) (ye:Bool) (ve:Value) (es:List En) (w:World) (he:ER w ve es) (ne:es.length≤1048576) (ns:∀i (h:i<es.length),es[i].d.size≤1048576):
  Calls Tryz.prog 41 #[.agg #[ki,fr,dst,te,ix,be,ve,co,ye],pe] w fun e w'=>e= .returned (.bool (xg_ pe ki fr dst te ix be co ye es))∧Below w.heap.size w w':=by
 have hB:=zb_ w (.cells #[ki,fr,dst,te,ix,be,ve,co,ye] 80);have X:=Box.new w #[ki,fr,dst,te,ix,be,ve,co,ye] 80;have HO:Hid (xg_ pe ki fr dst te ix be co ye es=(inB pe 1 7&&(!decide (fr=dst)&&(inB fr 0 (pe-1)&&(inB dst 0 (pe-1)&&(inB te 1 1000&&(inB ix 0 60&&(inB be 0 1000&&(inB co 0 60&&va_ ki te ix be co ye es))))))))):=qn_ _ _ _ _ _ _ _ _ _ _;have KP:=fun W=>yF_ pe W;have K1:=fun W=>zu_ fr 0 (pe-1) W;have K2:=fun W=>zu_ dst 0 (pe-1) W;have K3:=fun W=>zu_ te 1 1000 W;have K4:=fun W=>zu_ ix 0 60 W;have K5:=fun W=>zu_ be 0 1000 W;have K6:=fun W=>zu_ co 0 60 W;have KE:=xQ_ ve es te _ (he.below hB) ne ns;have C0:(carB es.length co=true∧(0<es.length∨(es.length=0∧¬co=0)))∨(carB es.length co=false∧es.length=0∧co=0):=by
  unfold carB;rcases Nat.eq_zero_or_pos es.length with h | h
  ·by_cases h2:co=0
   ·exact .inr ⟨by simp [h,h2],h,h2⟩
   ·exact .inl ⟨by simp [h2],.inr ⟨h,h2⟩⟩
  ·exact .inl ⟨by simp [List.length_pos_iff] at h ⊢;simp [h],.inl h⟩
 generalize xg_ pe ki fr dst te ix be co ye es=R at*;generalize hb1:inB pe 1 7=b1 at*;generalize inB fr 0 (pe-1)=b2 at*;generalize inB dst 0 (pe-1)=b3 at*;generalize inB te 1 1000=b4 at*;generalize hb5:inB ix 0 60=b5 at*;generalize inB be 0 1000=b6 at*;generalize inB co 0 60=b7 at*;obtain⟨ea,ec,rfl,hec⟩:=he;clear hec ns;go_enter Tryz.func41,Tryz.ntmps41;go_wp2_with fail;refine (KP _).mono ?_;rintro e w1 ⟨rfl,hw⟩;subst hw;clear KP
 cases b1
 ·clear KE C0;go_wp2;go_ret;exact⟨by rw [HO.out];simp,hB⟩
 have pB:1≤pe∧pe≤7:=by simp [inB] at hb1;omega
 obtain⟨p1,p7⟩:=pB;clear hb1;by_cases c2:fr=dst
 ·subst c2;clear KE C0;go_wp2;go_ret;exact⟨by rw [HO.out];simp,hB⟩
 have c2b:(fr==dst)=false:=by simp [c2]
 go_wp2_with fail;refine (K1 _).mono ?_;rintro e w1 ⟨rfl,hw⟩;subst hw;clear K1
 cases b2
 ·clear KE C0;go_wp2;go_ret;exact⟨by rw [HO.out];simp,hB⟩
 go_wp2_with fail;refine (K2 _).mono ?_;rintro e w1 ⟨rfl,hw⟩;subst hw;clear K2
 cases b3
 ·clear KE C0;go_wp2;go_ret;exact⟨by rw [HO.out];simp,hB⟩
 go_wp2_with fail;refine (K3 _).mono ?_;rintro e w1 ⟨rfl,hw⟩;subst hw;clear K3
 cases b4
 ·clear KE C0;go_wp2;go_ret;exact⟨by rw [HO.out];simp,hB⟩
 go_wp2_with fail;refine (K4 _).mono ?_;rintro e w1 ⟨rfl,hw⟩;subst hw;clear K4
 cases b5
 ·clear KE C0;go_wp2;go_ret;exact⟨by rw [HO.out];simp,hB⟩
 have xB:0≤ix∧ix≤60:=by simp [inB] at hb5;omega
 obtain⟨x0',x60⟩:=xB;clear hb5;go_wp2_with fail;refine (K5 _).mono ?_;rintro e w1 ⟨rfl,hw⟩;subst hw;clear K5
 cases b6
 ·clear KE C0;go_wp2;go_ret;exact⟨by rw [HO.out];simp,hB⟩
 go_wp2_with fail;refine (K6 _).mono ?_;rintro e w1 ⟨rfl,hw⟩;subst hw;clear K6
 cases b7
 ·clear KE C0;go_wp2;go_ret;exact⟨by rw [HO.out];simp,hB⟩
 have HV:Hid (R=va_ ki te ix be co ye es):=by
  show _=_;rw [HO.out,decide_eq_false c2];rfl
 clear HO;by_cases k1:ki=1
 ·subst k1;have HE:=HV.out;clear HV KE;rw [restB_1] at HE;rcases C0 with⟨hc,hn | ⟨hn,h0⟩⟩ | ⟨hc,hn,h0⟩
  ·rw [hc] at HE;have HO:Hid _:=HE;clear HE hc;generalize es.length=n at*;have hn2:(0:Int)<(n:Int):=by omega
   go_wp2;go_ret;exact⟨by rw [HO.out];simp <;>omega,hB⟩
  ·rw [hc] at HE;have HO:Hid _:=HE;clear HE hc;have h0b:(co==0)=false:=by simp [h0]
   have h0c:(co !=0)=true:=by simp [h0]
   generalize es.length=n at*;subst hn;go_wp2;go_ret;exact⟨by rw [HO.out];simp <;>omega,hB⟩
  ·rw [hc] at HE;have HO:Hid _:=HE;clear HE hc;subst h0;generalize es.length=n at*;subst hn
   cases ye
   ·go_wp2;go_ret;exact⟨by rw [HO.out];simp <;>omega,hB⟩
   go_wp2;go_ret;exact⟨by rw [HO.out];simp <;>omega,hB⟩
 by_cases k2:ki=2
 ·subst k2;have HE:=HV.out;clear HV KE;rw [restB_2] at HE;rcases C0 with⟨hc,hn | ⟨hn,h0⟩⟩ | ⟨hc,hn,h0⟩
  ·rw [hc] at HE;have HO:Hid _:=HE;clear HE hc;generalize es.length=n at*;have hn2:(0:Int)<(n:Int):=by omega
   go_wp2;go_ret;exact⟨by rw [HO.out];simp <;>omega,hB⟩
  ·rw [hc] at HE;have HO:Hid _:=HE;clear HE hc;have h0b:(co==0)=false:=by simp [h0]
   have h0c:(co !=0)=true:=by simp [h0]
   generalize es.length=n at*;subst hn;go_wp2;go_ret;exact⟨by rw [HO.out];simp <;>omega,hB⟩
  ·rw [hc] at HE;have HO:Hid _:=HE;clear HE hc;subst h0;generalize es.length=n at*;subst hn;by_cases z1:ix=0;rotate_left
   ·have z1b:(ix==0)=false:=by simp [z1]
    go_wp2;go_ret;exact⟨by rw [HO.out];simp [z1],hB⟩
   subst z1;by_cases z2:be=0;rotate_left
   ·have z2b:(be==0)=false:=by simp [z2]
    go_wp2;go_ret;exact⟨by rw [HO.out];simp [z2],hB⟩
   subst z2;go_wp2;go_ret;exact⟨by rw [HO.out];simp <;>omega,hB⟩
 by_cases k3:ki=3
 ·subst k3;have HE:=HV.out;clear HV C0;rw [restB_3] at HE;have HO:Hid _:=HE;clear HE;generalize (gE te 0 es&&decide ((es.length:Int)≤60))=g at*;generalize es.length=n at*
  cases ye
  rotate_left
  ·clear KE;go_wp2;go_ret;exact⟨by rw [HO.out];simp,hB⟩
  go_wp2_with fail;refine KE.mono ?_;rintro e w2 ⟨rfl,hb⟩;replace hB:=za_ hB hb;replace X:=X.below hb;clear KE hb;obtain⟨hxl,x0,x1,x2,x3,x4,x5,x6,x7,x8⟩:=X.e9
  cases g
  ·go_wp2;go_ret;exact⟨by rw [HO.out];simp,hB⟩
  by_cases z:ix+(n:Int)≤60
  all_goals
   go_wp2;go_ret;exact⟨by rw [HO.out];simp <;>omega,hB⟩
 by_cases k4:ki=4
 ·subst k4;have HE:=HV.out;clear HV KE;rw [restB_4] at HE;rcases C0 with⟨hc,hn | ⟨hn,h0⟩⟩ | ⟨hc,hn,h0⟩
  ·rw [hc] at HE;have HO:Hid _:=HE;clear HE hc;generalize es.length=n at*;have hn2:(0:Int)<(n:Int):=by omega
   go_wp2;go_ret;exact⟨by rw [HO.out];simp <;>omega,hB⟩
  ·rw [hc] at HE;have HO:Hid _:=HE;clear HE hc;have h0b:(co==0)=false:=by simp [h0]
   have h0c:(co !=0)=true:=by simp [h0]
   generalize es.length=n at*;subst hn;go_wp2;go_ret;exact⟨by rw [HO.out];simp <;>omega,hB⟩
  ·rw [hc] at HE;have HO:Hid _:=HE;clear HE hc;subst h0;generalize es.length=n at*;subst hn;by_cases z2:be=0;rotate_left
   ·have z2b:(be==0)=false:=by simp [z2]
    go_wp2;go_ret;exact⟨by rw [HO.out];simp [z2],hB⟩
   subst z2;go_wp2;go_ret;exact⟨by rw [HO.out];simp <;>omega,hB⟩
 have HE:=HV.out;clear HV KE;rw [restB_x _ _ _ _ _ _ _ k1 k2 k3 k4] at HE;have HO:Hid _:=HE;clear HE;have k4b:(ki==4)=false:=by simp [k4]
 have k3b:(ki !=3)=true:=by simp [k3]
 rcases C0 with⟨hc,hn | ⟨hn,h0⟩⟩ | ⟨hc,hn,h0⟩
 ·clear hc;generalize es.length=n at*;have hn2:(0:Int)<(n:Int):=by omega
  go_wp2;go_ret;exact⟨by rw [HO.out];try rfl,hB⟩
 ·clear hc;have h0b:(co==0)=false:=by simp [h0]
  have h0c:(co !=0)=true:=by simp [h0]
  generalize es.length=n at*;subst hn;go_wp2;go_ret;exact⟨by rw [HO.out];try rfl,hB⟩
 ·clear hc;subst h0;generalize es.length=n at*;subst hn;go_wp2;go_ret;exact⟨by rw [HO.out];try rfl,hB⟩
end Go.Proofs.YtapfhhmimkkhnaaGreat
namespace Go.Proofs.YtapfhhmimkkhnaaGreat
open Go.RowKit Go.Maps
set_option linter.unusedVariables false
set_option maxRecDepth 100000
set_option maxHeartbeats 16000000
def gNd (x:Nd):Bool:=zm_ x.id x.pe x.te x.vo x.co x.ro x.log x.vs x.mt
def gMs (p:Nat) (q:Ms):Bool:=xg_ p q.ki q.fr q.dst q.te q.ix q.be q.co q.ye q.es
def ndOk (p:Nat) (k:Nat) (x:Nd):Bool:=gNd x&&(decide (x.id=(k:Int))&&decide (x.pe=(p:Int)))
def ldOk (p:Nat) (x:Ld):Bool:=(decide (1≤x.t)&&decide (x.t≤1000))&&isP x.n p
def yy_ (N:List Nd):Bool:=decide (∀i (h:i<N.length),ndOk N.length i N[i]=true)
def ud_ (p:Nat) (M:List Ms):Bool:=decide (∀i (h:i<M.length),gMs p M[i]=true)
def yz_ (p:Nat) (L:List Ld):Bool:=decide (∀i (h:i<L.length),ldOk p L[i]=true)
def zU_ (N:List Nd) (M:List Ms) (L:List Ld):Bool:=
 (decide (1≤N.length)&&decide (N.length≤7))&&(yy_ N&&(decide (M.length≤60)&&(ud_ N.length M&&(decide (L.length≤1000)&&yz_ N.length L))))
theorem vd_ {N:List Nv} {k:Nat} (h:k<N.length) (e:ndOk N.length k N[k].n=false):yy_ (N.map Nv.n)=false:=by
 refine decide_eq_false fun ha=> ?_;have:=ha k (by simpa using h);simp [e] at this
theorem vD_ {N:List Nv} (ha:∀j (h:j<N.length),ndOk N.length j N[j].n=true):yy_ (N.map Nv.n)=true:=by
 refine decide_eq_true fun i hi=> ?_;simp only [List.length_map] at hi;simpa using ha i hi
theorem uc_ {p:Nat} {M:List Mv} {k:Nat} (h:k<M.length) (e:gMs p M[k].q=false):ud_ p (M.map Mv.q)=false:=by
 refine decide_eq_false fun ha=> ?_;have:=ha k (by simpa using h);simp [e] at this
theorem uA_ {p:Nat} {M:List Mv} (ha:∀j (h:j<M.length),gMs p M[j].q=true):ud_ p (M.map Mv.q)=true:=by
 refine decide_eq_true fun i hi=> ?_;simp only [List.length_map] at hi;simpa using ha i hi
theorem vi_ {p:Nat} {L:List Ld} {k:Nat} (h:k<L.length) (e:ldOk p L[k]=false):yz_ p L=false:=by
 refine decide_eq_false fun ha=> ?_;have:=ha k h;simp [e] at this
theorem vF_ {p:Nat} {L:List Ld} (ha:∀j (h:j<L.length),ldOk p L[j]=true):yz_ p L=true:=decide_eq_true ha
theorem xf_ (i:Int) (n m l:Nat) (na:Option Addr) (nc:Nat) (xa:Option Addr) (xc:Nat) (ya:Option Addr) (yc:Nat) (w:World):
  Calls Tryz.prog 74 #[.agg #[.slice na n nc,.slice xa m xc,.slice ya l yc],i] w fun e w'=>e= .returned (.bool (isP i n))∧Below w.heap.size w w':=by
 have KP:=fun W=>yA_ i n W;have hB:=zb_ w (.cells #[.slice na n nc,.slice xa m xc,.slice ya l yc] 30);go_enter Tryz.func74,Tryz.ntmps74;go_wp2_with fail;refine (KP _).mono ?_;rintro e w1 ⟨rfl,hw⟩;subst hw;clear KP;go_wp2;go_ret;exact⟨rfl,hB⟩
theorem vO_ (vn vm vl:Value) (N:List Nv) (M:List Mv) (L:List Ld) (w:World) (h:CR w vn vm vl N M L) (hs:CS N M L):
  Calls Tryz.prog 36 #[.agg #[vn,vm,vl]] w fun e w'=>e= .returned (.bool (yy_ (N.map Nv.n)))∧Below w.heap.size w w':=by
 obtain⟨⟨na,nc,hcn⟩,⟨xa,xc,hcm⟩,ya,yc,hcl⟩:=h.shapes;subst hcn;subst hcm;subst hcl;have hB:=zb_ w (.cells #[.slice na N.length nc,.slice xa M.length xc,.slice ya L.length yc] 30);have X:=Box.new w #[.slice na N.length nc,.slice xa M.length xc,.slice ya L.length yc] 30;have HEN:=fun k (hk:k<N.length) W (hb:Below w.heap.size w W)=>(h.ne k hk).below hb;have HEM:=fun k (hk:k<M.length) W (hb:Below w.heap.size w W)=>(h.me k hk).below hb;obtain⟨a1,c1,e1,hcN⟩:=h.n;obtain⟨a2,c2,e2,hcM⟩:=h.m;obtain⟨a3,c3,e3,hcL⟩:=h.l;simp only [Value.slice.injEq,true_and] at e1 e2 e3;obtain⟨rfl,rfl⟩:=e1;obtain⟨rfl,rfl⟩:=e2;obtain⟨rfl,rfl⟩:=e3;have hNl:=hs.n;have hMl:=hs.m;have hLl:=hs.l;clear h;clear hcM hcL HEM;go_enter Tryz.func36,Tryz.ntmps36;go_wp2
 go_loopw [8] (fun i wr=>∃k:Nat,k≤N.length∧i= .int .i64 k∧(∀j (h:j<N.length),j<k→ndOk N.length j N[j].n=true)∧Below w.heap.size w wr∧Box wr w.heap.size [.slice na N.length nc,.slice xa M.length xc,.slice ya L.length yc]) (fun i _=>N.length-(intOf i).toNat)
 case atStart=>exact⟨0,Nat.zero_le _,rfl,fun j _ h=>absurd h (Nat.not_lt_zero j),hB,X⟩
 case round=>
  obtain⟨k,hk,rfl,hall,hb,X⟩:=hrel;clear hB;by_cases hlt:k<N.length
  ·obtain⟨b,off,rfl,hbl,hcell⟩:=hcN (by intro e;simp [e] at hlt);obtain⟨z0,z1,z2,z3,z4,z5,z6,z7,z8⟩:=hcell k hlt;have hc0:=(hb.cell (p:=⟨b,off+k*9,none⟩) hbl).trans z0;have hc1:=(hb.cell (p:=⟨b,off+k*9+1,none⟩) hbl).trans z1;have hc2:=(hb.cell (p:=⟨b,off+k*9+2,none⟩) hbl).trans z2;have hc3:=(hb.cell (p:=⟨b,off+k*9+3,none⟩) hbl).trans z3;have hc4:=(hb.cell (p:=⟨b,off+k*9+4,none⟩) hbl).trans z4;have hc5:=(hb.cell (p:=⟨b,off+k*9+5,none⟩) hbl).trans z5;have hc6:=(hb.cell (p:=⟨b,off+k*9+6,none⟩) hbl).trans z6;have hc7:=(hb.cell (p:=⟨b,off+k*9+7,none⟩) hbl).trans z7;have hc8:=(hb.cell (p:=⟨b,off+k*9+8,none⟩) hbl).trans z8;have hE:=HEN k hlt _ hb;have hS:=hs.ne k hlt;have hS2:=hs.ns k hlt;have HF:Hid (ndOk N.length k N[k].n=false→yy_ (N.map Nv.n)=false):=fun e=>vd_ hlt e;have HA:Hid (ndOk N.length k N[k].n=true→∀j (h:j<N.length),j<k+1→ndOk N.length j N[j].n=true):=fun e j h hj=>by
    by_cases hjk:j<k
    ·exact hall j h hjk
    ·obtain rfl:j=k:=by omega
     exact e
   clear hcell hcN HEN hs hall z0 z1 z2 z3 z4 z5 z6 z7 z8;generalize N[k]=s at*;obtain⟨⟨id,pe,te,vo,co,ro,log,vs,mt⟩,la,lc,va,vc,ma,mc⟩:=s;dsimp only at hc0 hc1 hc2 hc3 hc4 hc5 hc6 hc7 hc8 hE hS hS2 HF HA;have hz:=hb.size;have hB0:=hb.alloc hz (.cells #[id,pe,te,vo,.slice la log.length lc,co,ro,.slice va vs.length vc,.slice ma mt.length mc] 42);have X0:=Box.new wr #[id,pe,te,vo,.slice la log.length lc,co,ro,.slice va vs.length vc,.slice ma mt.length mc] 42;have hBw:=zb_ wr (.cells #[id,pe,te,vo,.slice la log.length lc,co,ro,.slice va vs.length vc,.slice ma mt.length mc] 42);have KG:=zM_ id pe te vo co ro _ _ _ log vs mt _ (hE.1.below hBw) (hE.2.1.below hBw) (hE.2.2.below hBw) hS.1 hS.2.1 hS.2.2 hS2;replace X:=X.below hBw;have HD:Hid (ndOk N.length k ⟨id,pe,te,vo,co,ro,log,vs,mt⟩=(zm_ id pe te vo co ro log vs mt&&(decide (id=(k:Int))&&decide (pe=(N.length:Int))))):=rfl;clear hE hS hS2 hBw;dsimp only at KG;generalize zm_ id pe te vo co ro log vs mt=ge at*;go_wp2_with fail;refine KG.mono ?_;rintro e w1 ⟨rfl,hb1⟩;have hB1:=hB0.trans (hb1.mono hB0.size);replace X:=X.below hb1;have X1:=X0.below hb1;obtain⟨hx0,v0,v1,v2,v3,v4,v5,v6,v7,v8⟩:=X1.e9;obtain⟨hxl,x0,x1,x2⟩:=X.c3;clear KG hB0 X0 hb1 hb
   cases ge with
   | false=>
    have HV:Hid (yy_ (N.map Nv.n)=false):=HF.out (by rw [HD.out];rfl);clear HF HA HD;go_wp2;go_ret;exact⟨by rw [HV.out];try rfl,hB1⟩
   | true=>
    by_cases h1:id=(k:Int)
    ·subst h1;by_cases h2:pe=(N.length:Int)
     ·subst h2;have HA2:=HA.out (by rw [HD.out];simp);clear HF HA HD;go_wp2;go_roundw
      case rel=>exact⟨k+1,by omega,by go_num,HA2,hB1,X⟩
      case measure=>simp [intOf];omega
     ·have HV:Hid (yy_ (N.map Nv.n)=false):=HF.out (by rw [HD.out];simp [h2]);have h2b:(pe !=(N.length:Int))=true:=by simp [h2]
      clear HF HA HD;go_wp2;go_ret;exact⟨by rw [HV.out];try rfl,hB1⟩
    ·have HV:Hid (yy_ (N.map Nv.n)=false):=HF.out (by rw [HD.out];simp [h1]);have h1b:(id !=(k:Int))=true:=by simp [h1]
     clear HF HA HD;go_wp2;go_ret;exact⟨by rw [HV.out];try rfl,hB1⟩
  ·have hk:k=N.length:=by omega
   have HAN:Hid (∀j (h:j<N.length),ndOk N.length j N[j].n=true):=fun j h=>hall j h (by omega);clear hall;have hB1:=hb;obtain⟨hxl,x0,x1,x2⟩:=X.c3;have HV:Hid (yy_ (N.map Nv.n)=true):=vD_ HAN.out;clear hcN HEN hs HAN X;subst hk;go_wp2;go_ret;exact⟨by rw [HV.out];try rfl,hB1⟩
theorem uv_ (vn vm vl:Value) (N:List Nv) (M:List Mv) (L:List Ld) (w:World) (h:CR w vn vm vl N M L) (hs:CS N M L):
  Calls Tryz.prog 37 #[.agg #[vn,vm,vl]] w fun e w'=>e= .returned (.bool (ud_ N.length (M.map Mv.q)))∧Below w.heap.size w w':=by
 obtain⟨⟨na,nc,hcn⟩,⟨xa,xc,hcm⟩,ya,yc,hcl⟩:=h.shapes;subst hcn;subst hcm;subst hcl;have hB:=zb_ w (.cells #[.slice na N.length nc,.slice xa M.length xc,.slice ya L.length yc] 30);have X:=Box.new w #[.slice na N.length nc,.slice xa M.length xc,.slice ya L.length yc] 30;have HEN:=fun k (hk:k<N.length) W (hb:Below w.heap.size w W)=>(h.ne k hk).below hb;have HEM:=fun k (hk:k<M.length) W (hb:Below w.heap.size w W)=>(h.me k hk).below hb;obtain⟨a1,c1,e1,hcN⟩:=h.n;obtain⟨a2,c2,e2,hcM⟩:=h.m;obtain⟨a3,c3,e3,hcL⟩:=h.l;simp only [Value.slice.injEq,true_and] at e1 e2 e3;obtain⟨rfl,rfl⟩:=e1;obtain⟨rfl,rfl⟩:=e2;obtain⟨rfl,rfl⟩:=e3;have hNl:=hs.n;have hMl:=hs.m;have hLl:=hs.l;clear h;clear hcN hcL HEN;go_enter Tryz.func37,Tryz.ntmps37;go_wp2
 go_loopw [8] (fun i wr=>∃k:Nat,k≤M.length∧i= .int .i64 k∧(∀j (h:j<M.length),j<k→gMs N.length M[j].q=true)∧Below w.heap.size w wr∧Box wr w.heap.size [.slice na N.length nc,.slice xa M.length xc,.slice ya L.length yc]) (fun i _=>M.length-(intOf i).toNat)
 case atStart=>exact⟨0,Nat.zero_le _,rfl,fun j _ h=>absurd h (Nat.not_lt_zero j),hB,X⟩
 case round=>
  obtain⟨k,hk,rfl,hall,hb,X⟩:=hrel;clear hB;by_cases hlt:k<M.length
  ·obtain⟨b,off,rfl,hbl,hcell⟩:=hcM (by intro e;simp [e] at hlt);obtain⟨z0,z1,z2,z3,z4,z5,z6,z7,z8⟩:=hcell k hlt;have hc0:=(hb.cell (p:=⟨b,off+k*9,none⟩) hbl).trans z0;have hc1:=(hb.cell (p:=⟨b,off+k*9+1,none⟩) hbl).trans z1;have hc2:=(hb.cell (p:=⟨b,off+k*9+2,none⟩) hbl).trans z2;have hc3:=(hb.cell (p:=⟨b,off+k*9+3,none⟩) hbl).trans z3;have hc4:=(hb.cell (p:=⟨b,off+k*9+4,none⟩) hbl).trans z4;have hc5:=(hb.cell (p:=⟨b,off+k*9+5,none⟩) hbl).trans z5;have hc6:=(hb.cell (p:=⟨b,off+k*9+6,none⟩) hbl).trans z6;have hc7:=(hb.cell (p:=⟨b,off+k*9+7,none⟩) hbl).trans z7;have hc8:=(hb.cell (p:=⟨b,off+k*9+8,none⟩) hbl).trans z8;have hE:=HEM k hlt _ hb;have hS:=hs.me k hlt;have hS2:=hs.ms k hlt;have HF:Hid (gMs N.length M[k].q=false→ud_ N.length (M.map Mv.q)=false):=fun e=>uc_ hlt e;have HA:Hid (gMs N.length M[k].q=true→∀j (h:j<M.length),j<k+1→gMs N.length M[j].q=true):=fun e j h hj=>by
    by_cases hjk:j<k
    ·exact hall j h hjk
    ·obtain rfl:j=k:=by omega
     exact e
   clear hcell hcM HEM hs hall z0 z1 z2 z3 z4 z5 z6 z7 z8;generalize M[k]=s at*;obtain⟨⟨ki,fr,dst,te,ix,be,co,ye,es⟩,ea,ec⟩:=s;dsimp only at hc0 hc1 hc2 hc3 hc4 hc5 hc6 hc7 hc8 hE hS hS2 HF HA;have hz:=hb.size;have hB0:=hb.alloc hz (.cells #[ki,fr,dst,te,ix,be,.slice ea es.length ec,co,ye] 80);have X0:=Box.new wr #[ki,fr,dst,te,ix,be,.slice ea es.length ec,co,ye] 80;have hBw:=zb_ wr (.cells #[ki,fr,dst,te,ix,be,.slice ea es.length ec,co,ye] 80);have KG:=vm_ N.length ki fr dst te ix be co ye _ es _ (ER.below hE hBw) hS hS2;replace X:=X.below hBw;have HD:Hid (gMs N.length ⟨ki,fr,dst,te,ix,be,co,ye,es⟩=xg_ N.length ki fr dst te ix be co ye es):=rfl;clear hE hS hS2 hBw;dsimp only at KG;generalize xg_ N.length ki fr dst te ix be co ye es=ge at*;obtain⟨hxl,x0,x1,x2⟩:=X.c3;go_wp2_with fail;refine KG.mono ?_;rintro e w1 ⟨rfl,hb1⟩;have hB1:=hB0.trans (hb1.mono hB0.size);replace X:=X.below hb1;clear KG hB0 X0 hb1 hb hxl x0 x1 x2
   cases ge with
   | false=>
    have HV:Hid (ud_ N.length (M.map Mv.q)=false):=HF.out HD.out;clear HF HA HD;go_wp2;go_ret;exact⟨by rw [HV.out];try rfl,hB1⟩
   | true=>
    have HA2:=HA.out HD.out;clear HF HA HD;go_wp2;go_roundw
    case rel=>exact⟨k+1,by omega,by go_num,HA2,hB1,X⟩
    case measure=>simp [intOf];omega
  ·have hk:k=M.length:=by omega
   have HAM:Hid (∀j (h:j<M.length),gMs N.length M[j].q=true):=fun j h=>hall j h (by omega);clear hall;have hB1:=hb;obtain⟨hxl,x0,x1,x2⟩:=X.c3;have HV:Hid (ud_ N.length (M.map Mv.q)=true):=uA_ HAM.out;clear hcM HEM hs HAM X;subst hk;go_wp2;go_ret;exact⟨by rw [HV.out];try rfl,hB1⟩
theorem vQ_ (vn vm vl:Value) (N:List Nv) (M:List Mv) (L:List Ld) (w:World) (h:CR w vn vm vl N M L) (hs:CS N M L):
  Calls Tryz.prog 38 #[.agg #[vn,vm,vl]] w fun e w'=>e= .returned (.bool (yz_ N.length L))∧Below w.heap.size w w':=by
 obtain⟨⟨na,nc,hcn⟩,⟨xa,xc,hcm⟩,ya,yc,hcl⟩:=h.shapes;subst hcn;subst hcm;subst hcl;have hB:=zb_ w (.cells #[.slice na N.length nc,.slice xa M.length xc,.slice ya L.length yc] 30);have X:=Box.new w #[.slice na N.length nc,.slice xa M.length xc,.slice ya L.length yc] 30;have HEN:=fun k (hk:k<N.length) W (hb:Below w.heap.size w W)=>(h.ne k hk).below hb;have HEM:=fun k (hk:k<M.length) W (hb:Below w.heap.size w W)=>(h.me k hk).below hb;obtain⟨a1,c1,e1,hcN⟩:=h.n;obtain⟨a2,c2,e2,hcM⟩:=h.m;obtain⟨a3,c3,e3,hcL⟩:=h.l;simp only [Value.slice.injEq,true_and] at e1 e2 e3;obtain⟨rfl,rfl⟩:=e1;obtain⟨rfl,rfl⟩:=e2;obtain⟨rfl,rfl⟩:=e3;have hNl:=hs.n;have hMl:=hs.m;have hLl:=hs.l;clear h;clear hcN hcM HEN HEM;go_enter Tryz.func38,Tryz.ntmps38;go_wp2
 go_loopw [8] (fun i wr=>∃k:Nat,k≤L.length∧i= .int .i64 k∧(∀j (h:j<L.length),j<k→ldOk N.length L[j]=true)∧Below w.heap.size w wr∧Box wr w.heap.size [.slice na N.length nc,.slice xa M.length xc,.slice ya L.length yc]) (fun i _=>L.length-(intOf i).toNat)
 case atStart=>exact⟨0,Nat.zero_le _,rfl,fun j _ h=>absurd h (Nat.not_lt_zero j),hB,X⟩
 case round=>
  obtain⟨k,hk,rfl,hall,hb,X⟩:=hrel;clear hB;by_cases hlt:k<L.length
  ·obtain⟨b,off,rfl,hbl,hcell⟩:=hcL (by intro e;simp [e] at hlt);obtain⟨z0,z1⟩:=hcell k hlt;have hc0:=(hb.cell (p:=⟨b,off+k*2,none⟩) hbl).trans z0;have hc1:=(hb.cell (p:=⟨b,off+k*2+1,none⟩) hbl).trans z1;have HF:Hid (ldOk N.length L[k]=false→yz_ N.length L=false):=fun e=>vi_ hlt e;have HA:Hid (ldOk N.length L[k]=true→∀j (h:j<L.length),j<k+1→ldOk N.length L[j]=true):=fun e j h hj=>by
    by_cases hjk:j<k
    ·exact hall j h hjk
    ·obtain rfl:j=k:=by omega
     exact e
   clear hcell hcL hall z0 z1 hs;generalize L[k]=s at*;obtain⟨t,n⟩:=s;dsimp only at hc0 hc1 HF HA;have hz:=hb.size;have hB0:=hb.alloc hz (.cells #[t,n] 34);have X0:=Box.new wr #[t,n] 34;replace X:=X.below (zb_ wr (.cells #[t,n] 34));obtain⟨hxl,x0,x1,x2⟩:=X.c3;have KP:=fun W=>xf_ n N.length M.length L.length na nc xa xc (some ⟨b,off,none⟩) yc W;have HD:Hid (ldOk N.length ⟨t,n⟩=((decide (1≤t)&&decide (t≤1000))&&isP n N.length)):=rfl;generalize isP n (N.length:Int)=ip at*;by_cases h1:t<1
   ·have HV:Hid (yz_ N.length L=false):=HF.out (by rw [HD.out,decide_eq_false (show ¬1≤t from by omega)];rfl);have hB1:=hB0;clear HF HA HD KP;go_wp2;go_ret;exact⟨by rw [HV.out];try rfl,hB1⟩
   by_cases h2:1000<t
   ·have HV:Hid (yz_ N.length L=false):=HF.out (by rw [HD.out,decide_eq_false (show ¬t≤1000 from by omega)];simp);have hB1:=hB0;clear HF HA HD KP;go_wp2;go_ret;exact⟨by rw [HV.out];try rfl,hB1⟩
   go_wp2_with fail;refine (KP _).mono ?_;rintro e w1 ⟨rfl,hb1⟩;have hB1:=hB0.trans (hb1.mono hB0.size);replace X:=X.below hb1;clear KP hB0 X0 hb1 hb hxl x0 x1 x2
   cases ip with
   | false=>
    have HV:Hid (yz_ N.length L=false):=HF.out (by rw [HD.out];simp);clear HF HA HD;go_wp2;go_ret;exact⟨by rw [HV.out];try rfl,hB1⟩
   | true=>
    have HA2:=HA.out (by rw [HD.out,decide_eq_true (show 1≤t from by omega),decide_eq_true (show t≤1000 from by omega)];rfl);clear HF HA HD;go_wp2;go_roundw
    case rel=>exact⟨k+1,by omega,by go_num,HA2,hB1,X⟩
    case measure=>simp [intOf];omega
  ·have hk:k=L.length:=by omega
   have HAL:Hid (∀j (h:j<L.length),ldOk N.length L[j]=true):=fun j h=>hall j h (by omega);clear hall;have hB1:=hb;obtain⟨hxl,x0,x1,x2⟩:=X.c3;have HV:Hid (yz_ N.length L=true):=vF_ HAL.out;clear hcL hs HAL X;subst hk;go_wp2;go_ret;exact⟨by rw [HV.out];try rfl,hB1⟩
theorem vn_ (vn vm vl:Value) (N:List Nv) (M:List Mv) (L:List Ld) (w:World) (h:CR w vn vm vl N M L) (hs:CS N M L):
  Calls Tryz.prog 11 #[.agg #[vn,vm,vl]] w fun e w'=>e= .returned (.bool (zU_ (N.map Nv.n) (M.map Mv.q) L))∧Below w.heap.size w w':=by
 have K1:=fun W (hb:Below w.heap.size w W)=>vO_ vn vm vl N M L W (h.below hb) hs;have K2:=fun W (hb:Below w.heap.size w W)=>uv_ vn vm vl N M L W (h.below hb) hs;have K3:=fun W (hb:Below w.heap.size w W)=>vQ_ vn vm vl N M L W (h.below hb) hs;have HG:Hid (zU_ (N.map Nv.n) (M.map Mv.q) L=((decide (1≤N.length)&&decide (N.length≤7))&&(yy_ (N.map Nv.n)&&(decide (M.length≤60)&&(ud_ N.length (M.map Mv.q)&&(decide (L.length≤1000)&&yz_ N.length L)))))):=by show _=_;unfold zU_;simp only [List.length_map]
 rw [HG.out];clear HG;obtain⟨⟨na,nc,hcn⟩,⟨xa,xc,hcm⟩,ya,yc,hcl⟩:=h.shapes;subst hcn;subst hcm;subst hcl;have hB:=zb_ w (.cells #[.slice na N.length nc,.slice xa M.length xc,.slice ya L.length yc] 30);have X:=Box.new w #[.slice na N.length nc,.slice xa M.length xc,.slice ya L.length yc] 30;clear h hs;generalize yy_ (N.map Nv.n)=b1 at*;generalize ud_ N.length (M.map Mv.q)=b2 at*;generalize yz_ N.length L=b3 at*;generalize N.length=n at*;generalize M.length=m at*;generalize L.length=l at*;obtain⟨G,HG⟩:∃G,Hid ((decide (1≤n)&&decide (n≤7)&&(b1&&(decide (m≤60)&&(b2&&(decide (l≤1000)&&b3)))))=G):=⟨(decide (1≤n)&&decide (n≤7)&&(b1&&(decide (m≤60)&&(b2&&(decide (l≤1000)&&b3))))),rfl⟩;rw [HG.out];by_cases h1:1≤n;rotate_left
 ·have HV:Hid (false=G):=by have:=HG.out;simp [h1] at this;rw [←this];try rfl
  have h1b:¬(1:Int)≤(n:Int):=by omega
  clear K1 K2 K3;go_enter Tryz.func11,Tryz.ntmps11;go_wp2;go_ret;exact⟨by rw [←HV.out];try rfl,hB⟩
 have h1b:(1:Int)≤(n:Int):=by omega
 by_cases h2:n≤7;rotate_left
 ·have HV:Hid (false=G):=by have:=HG.out;simp [h2] at this;rw [←this];try rfl
  have h2b:¬(n:Int)≤7:=by omega
  clear K1 K2 K3;go_enter Tryz.func11,Tryz.ntmps11;go_wp2;go_ret;exact⟨by rw [←HV.out];try rfl,hB⟩
 have h2b:(n:Int)≤7:=by omega
 go_enter Tryz.func11,Tryz.ntmps11;go_wp2_with fail;refine (K1 _ hB).mono ?_;rintro e w1 ⟨rfl,hb⟩;replace hB:=za_ hB hb;replace X:=X.below hb;clear hb K1;obtain⟨hxl,x0,x1,x2⟩:=X.c3
 cases b1 with
 | false=>
  have HV:Hid (false=G):=by have:=HG.out;simp at this;rw [←this];try rfl
  clear K2 K3;go_wp2;go_ret;exact⟨by rw [←HV.out];try rfl,hB⟩
 | true=>
 by_cases h3:m≤60;rotate_left
 ·have HV:Hid (false=G):=by have:=HG.out;simp [h3] at this;rw [←this];try rfl
  have h3b:¬(m:Int)≤60:=by omega
  clear K2 K3;go_wp2;go_ret;exact⟨by rw [←HV.out];try rfl,hB⟩
 have h3b:(m:Int)≤60:=by omega
 go_wp2_with fail;refine (K2 _ hB).mono ?_;rintro e w2 ⟨rfl,hb⟩;replace hB:=za_ hB hb;replace X:=X.below hb;clear hb K2 hxl x0 x1 x2;obtain⟨hxl,x0,x1,x2⟩:=X.c3
 cases b2 with
 | false=>
  have HV:Hid (false=G):=by have:=HG.out;simp at this;rw [←this];try rfl
  clear K3;go_wp2;go_ret;exact⟨by rw [←HV.out];try rfl,hB⟩
 | true=>
 by_cases h4:l≤1000;rotate_left
 ·have HV:Hid (false=G):=by have:=HG.out;simp [h4] at this;rw [←this];try rfl
  have h4b:¬(l:Int)≤1000:=by omega
  clear K3;go_wp2;go_ret;exact⟨by rw [←HV.out];try rfl,hB⟩
 have h4b:(l:Int)≤1000:=by omega
 go_wp2_with fail;refine (K3 _ hB).mono ?_;rintro e w3 ⟨rfl,hb⟩;replace hB:=za_ hB hb;clear hb K3 hxl x0 x1 x2 X;go_wp2;go_ret;have HV:Hid (b3=G):=by have:=HG.out;simp [h1,h2,h3,h4] at this;exact this
 exact⟨by rw [←HV.out];try rfl,hB⟩
set_option maxHeartbeats 200000
def uN (x:Nv):Nat:=6+2*x.n.log.length+x.n.vs.length+x.n.mt.length
def uM (x:Mv):Nat:=8+2*x.q.es.length
def uL (_:Ld):Nat:=2
theorem rebase {w:World} {base c:Nat} {e:TypeId} {size:Nat} {v:Value} {n:Nat} {xs:List Value} (h:w.ownsRow base e size v n xs) (hb:∀g,v.ownBlock=some g→c≤g):w.ownsRow c e size v n xs:=by
 refine⟨h.1,?_⟩;rcases h.2 with h0 | ⟨g,cap,cur,hv,hbg,r⟩
 ·exact .inl h0
 ·exact .inr ⟨g,cap,cur,hv,hb g (by rw [hv];rfl),r⟩
theorem PN.rebase {w:World} {b c:Nat} {x:Nv} (h:PN w b x) (hb:∀g,BN x g→c≤g):PN w c x:=
 ⟨Go.Proofs.YtapfhhmimkkhnaaGreat.rebase h.l fun g hg=>hb g (.inl hg),Go.Proofs.YtapfhhmimkkhnaaGreat.rebase h.v fun g hg=>hb g (.inr (.inl hg)),Go.Proofs.YtapfhhmimkkhnaaGreat.rebase h.m fun g hg=>hb g (.inr (.inr hg)),OwnN.ne h⟩
theorem PM.rebase {w:World} {b c:Nat} {x:Mv} (h:PM w b x) (hb:∀g,BM x g→c≤g):PM w c x:=Go.Proofs.YtapfhhmimkkhnaaGreat.rebase h hb
theorem PN.row_ne {w:World} {b b2 e2 s2 n2:Nat} {v2:Value} {x:Nv} {ys:List Value} (h:PN w b x) (h2:w.ownsRow b2 e2 s2 v2 n2 ys) (q1:44≠e2) (q2:3≠e2):∀b,BN x b→¬v2.ownBlock=some b:=by
 rintro b (hb | hb | hb)
 ·exact zn_ h.l h2 q1 b hb
 ·exact zn_ h.v h2 q2 b hb
 ·exact zn_ h.m h2 q2 b hb
theorem PM.row_ne {w:World} {b b2 e2 s2 n2:Nat} {v2:Value} {x:Mv} {ys:List Value} (h:PM w b x) (h2:w.ownsRow b2 e2 s2 v2 n2 ys) (q1:44≠e2):∀b,BM x b→¬v2.ownBlock=some b:=fun b hb=>zn_ h h2 q1 b hb
theorem zr_.setN {w w':World} {lo hi g base:Nat} {l:List Nv} (h:zr_ PN BN w lo hi l) (j:Nat) (hj:j<l.length) (x':Nv) (hx:∀b,BN x' b→BN l[j] b) (hp:PN w' base x') (hc:Chg (fun b=>b=g∨BN l[j] b) w w') (hg:∀i (hi:i<l.length),¬BN l[i] g):zr_ PN BN w' lo hi (l.set j x'):=by
 refine⟨h.1,fun i hi'=> ?_,fun i k h1 h2 hik b=> ?_⟩
 ·simp only [List.length_set] at hi';by_cases hij:j=i
  ·subst hij;simp only [List.getElem_set_self];exact⟨⟨lo,Nat.le_refl _,PN.rebase hp fun g hg=>((h.2.1 j hj).2 g (hx g hg)).1⟩,fun b hb=>(h.2.1 j hj).2 b (hx b hb)⟩
  ·simp only [List.getElem_set_ne hij];obtain⟨⟨c,hc0,q⟩,hb⟩:=h.2.1 i hi';refine⟨⟨c,hc0,OwnN.chg q hc (fun b h1 h2=> ?_)⟩,hb⟩;rcases h2 with rfl | h2
   ·exact hg i hi' h1
   ·exact h.2.2 i j hi' hj (fun e=>hij e.symm) b h1 h2
 ·simp only [List.length_set] at h1 h2;by_cases hij:j=i
  ·subst hij;simp only [List.getElem_set_self,List.getElem_set_ne hik];exact fun h3=>h.2.2 j k hj h2 hik b (hx b h3)
  ·simp only [List.getElem_set_ne hij];by_cases hjk:j=k
   ·subst hjk;simp only [List.getElem_set_self];exact fun h3 h4=>h.2.2 i j h1 hj hik b h3 (hx b h4)
   ·simp only [List.getElem_set_ne hjk];exact h.2.2 i k h1 h2 hik b


def uC (N:List Nv) (M:List Mv) (L:List Ld):Nat:=sm uN N+sm uM M+sm uL L

end Go.Proofs.YtapfhhmimkkhnaaGreat
namespace Go.Proofs.YtapfhhmimkkhnaaGreat
open Go.RowKit
set_option linter.unusedVariables false
set_option maxRecDepth 100000
set_option maxHeartbeats 2000000
def sel (b:Bool) (x:Int):Int:=if b then x else 0
def xE_ (id pe:Int):Bool:=inB pe 1 7&&inB id 0 (pe-1)
theorem qf_ (id pe:Int):zm_ id pe 0 (-1) 0 0 [] [] []=xE_ id pe:=by
 rw [zL_,yC_];unfold xE_;rw [Bool.eq_iff_iff];simp [inB,gE];omega
theorem rs_ (id pe:Int) (w:World):
  Calls Tryz.prog 99 #[id,pe] w fun e w'=>e= .returned (.tuple #[.agg #[(sel (xE_ id pe) id:Int),(sel (xE_ id pe) pe:Int),(0:Int),(sel (xE_ id pe) (-1):Int),(),(0:Int),(0:Int),(),()],.bool (xE_ id pe)])∧Below w.heap.size w w':=by
 obtain⟨W0,hW0,hB,X,Y,_⟩:=al2 w zN 42 [id,pe,(0:Int),(-1:Int),(),(0:Int),(0:Int),(),()] 42;have N0:IL W0 (.slice none 0 0) []:=⟨none,0,rfl,fun h=>absurd rfl h⟩;have K:=zM_ id pe 0 (-1) 0 0 (.slice none 0 0) (.slice none 0 0) (.slice none 0 0) [] [] [] W0 (ER_nil _) N0 N0 (by simp) (by simp) (by simp) (by simp);rw [qf_] at K;generalize xE_ id pe=ok at*;go_enter Tryz.func99,Tryz.ntmps99;go_wp2_with fail;rw [←hW0];clear hW0;refine K.mono ?_;rintro e w1 ⟨rfl,hb⟩;replace hB:=za_ hB hb;replace X:=X.below hb;replace Y:=Y.below hb;clear K hb N0;have hz:=hB.size;obtain⟨hxl,x0,x1,x2,x3,x4,x5,x6,x7,x8⟩:=X.e9;obtain⟨f0,f1,f2,f3,f4,f5,f6,f7,f8⟩:=X.f9;obtain⟨hyl,y0,y1,y2,y3,y4,y5,y6,y7,y8⟩:=Y.e9
 cases ok
 ·have hC:=zk_ w1 w.heap.size (0:Int) (0:Int) (0:Int) (0:Int) () (0:Int) (0:Int) () ();have Z:=zl_ X (0:Int) (0:Int) (0:Int) (0:Int) () (0:Int) (0:Int) () ();have hBE:=hB.trans (hC.below (B:=w.heap.size) hz (fun k hk=>by omega));obtain⟨hzl,t0,t1,t2,t3,t4,t5,t6,t7,t8⟩:=Z.e9;clear Z hC hB X Y;unfold put9 at*;go_wp2;exact bodyPost_ret (v:= .tuple #[.agg zN,false]) (by simp [results,Tryz.results99,go_sem,t0,t1,t2,t3,t4,t5,t6,t7,t8]) rfl ⟨by simp [sel],hBE⟩
 ·have hC:=zk_ w1 w.heap.size id pe (0:Int) (.int .i64 (-1)) () (0:Int) (0:Int) () ();have Z:=zl_ X id pe (0:Int) (.int .i64 (-1)) () (0:Int) (0:Int) () ();have hBE:=hB.trans (hC.below (B:=w.heap.size) hz (fun k hk=>by omega));obtain⟨hzl,t0,t1,t2,t3,t4,t5,t6,t7,t8⟩:=Z.e9;clear Z hC hB X Y;unfold put9 at*;go_wp2;exact bodyPost_ret (v:= .tuple #[.agg #[id,pe,(0:Int),(-1:Int),(),(0:Int),(0:Int),(),()],true]) (by simp [results,Tryz.results99,go_sem,t0,t1,t2,t3,t4,t5,t6,t7,t8]) rfl ⟨by simp [sel],hBE⟩
theorem rh_ (id pe:Int) (w:World):
  Calls Tryz.prog 98 #[id,pe] w fun e w'=>e= .returned (.tuple #[.agg #[(sel (xE_ id pe) id:Int),(sel (xE_ id pe) pe:Int),(0:Int),(sel (xE_ id pe) (-1):Int),(),(0:Int),(0:Int),(),()],.bool (xE_ id pe)])∧Below w.heap.size w w':=by
 have hB:=zb_ w (.cells zN 42);have KP:=fun W=>yF_ pe W;have K1:=fun W=>zu_ id 0 (pe-1) W;have HO:Hid (xE_ id pe=(inB pe 1 7&&inB id 0 (pe-1))):=rfl;generalize xE_ id pe=ok at*;generalize hb1:inB pe 1 7=b1 at*;generalize inB id 0 (pe-1)=b2 at*;go_enter Tryz.func98,Tryz.ntmps98;go_wp2_with fail;refine (KP _).mono ?_;rintro e w1 ⟨rfl,hw⟩;subst hw
 cases b1
 ·go_wp2;refine bodyPost_ret (v:= .tuple #[.agg zN,false]) (by simp [results,Tryz.results98,go_sem]) rfl ⟨by rw [HO.out];simp [sel],?_⟩;exact zb_ _ _
 have pB:1≤pe∧pe≤7:=by simp [inB] at hb1;omega
 obtain⟨p1,p7⟩:=pB;clear hb1 KP;go_wp2_with fail;refine (K1 _).mono ?_;rintro e w1 ⟨rfl,hw⟩;subst hw;clear K1
 cases b2
 ·go_wp2;refine bodyPost_ret (v:= .tuple #[.agg zN,false]) (by simp [results,Tryz.results98,go_sem]) rfl ⟨by rw [HO.out];simp [sel],?_⟩;exact zb_ _ _
 ·go_wp2;refine bodyPost_ret (v:= .tuple #[.agg #[id,pe,(0:Int),(-1:Int),(),(0:Int),(0:Int),(),()],true]) (by simp [results,Tryz.results98,go_sem]) rfl ⟨by rw [HO.out];simp [sel],?_⟩;exact zb_ _ _
end Go.Proofs.YtapfhhmimkkhnaaGreat
namespace Go.Proofs.YtapfhhmimkkhnaaGreat
open Go.RowKit Go.Maps
set_option linter.unusedVariables false
set_option maxRecDepth 100000
set_option maxHeartbeats 16000000
def newN (i p:Int):Nd:=⟨i,p,0,-1,0,0,[],[],[]⟩
def yo_ (p:Int) (k:Nat):List Nv:=(List.range k).map fun i:Nat=>⟨newN i p,none,0,none,0,none,0⟩
theorem xF_ (p:Int) (k:Nat):(yo_ p k).length=k:=by simp [yo_]
theorem uz_ (p:Int) (k:Nat):yo_ p (k+1)=yo_ p k++ [⟨newN k p,none,0,none,0,none,0⟩]:=by simp [yo_,List.range_succ]
theorem vf_ (p:Int) (k i:Nat) (h:i<(yo_ p k).length):(yo_ p k)[i]=⟨newN i p,none,0,none,0,none,0⟩:=by simp [yo_]
def ncN (ok:Bool) (p:Int):List Nv:=if ok then yo_ p p.toNat else []
theorem xx_ (w:World) {ops:Array Oper} {rest:List Oper} {o:Oper} {a:Act} {Q:Exit→Act→World→Prop} (hgd:o.guard=none) (s y:Operand)
  (ho:o.op= .call ⟨.builtin .append,#[s,y],#[26,26]⟩) (hty:o.type=26)
  (base:Nat) (v:Value) (n:Nat) (zs:List Nv) (hs:a.eval s=v) (hown:w.ownsRow base 42 9 v n (zI_ zs))
  (b:Nat) (x:Nv) (hx:a.eval y= .slice (some ⟨b,0,none⟩) 1 1) (hI:Box w b x) (hn:n+1≤2000000) (hbase:base≤w.heap.size)
  (h:∀v' w',w'.ownsRow base 42 9 v' (n+1) (zI_ (zs++ [x]))→w.grownBy w' v.ownBlock→wpList Tryz.prog ops Q rest (a.put o.dst v') w'):wpList Tryz.prog ops Q (o::rest) a w:=by
 obtain⟨i0,hi,hz0,hzs,hzb⟩:=info_parts Tryz.info42;refine wpList_append_own _ hgd s y 26 ho base 42 i0 (.agg zN) 9 120 Tryz.underlying26 hi hz0 hzs hzb rfl (by decide) v n (zI_ zs) hs hown ⟨b,0,none⟩ 1 1 (zI_ [x]) hx rfl ?_ ?_ (by unfold maxLen;omega) (by omega) hbase fun v' w' h1 h2 _=>h v' w' (by rw [vI_];exact h1) h2
 ·intro j u hj;rw [show (⟨b,0,none⟩:Addr).add j=⟨b,j,none⟩ from by simp [Addr.add];omega];exact hI.2.1 j u hj
 ·intro u hu;simp only [zI_,List.mem_cons,List.not_mem_nil,or_false] at hu;rcases hu with rfl | rfl | rfl | rfl | rfl | rfl | rfl | rfl | rfl <;>rfl
theorem tP_ (p:Int) (w:World):
  Calls Tryz.prog 51 #[p] w fun e w'=>∃u,e= .returned (.tuple #[.agg #[u,(),()],.bool (inB p 1 7)])∧w'.ownsRow w.heap.size 42 9 u (ncN (inB p 1 7) p).length (zI_ (ncN (inB p 1 7) p))∧Below w.heap.size w w':=by
 have hB1:=zb_ w (.cells z3 30);have X1:=Box.new w z3 30;by_cases hq:1≤p∧p≤7;rotate_left
 ·have hib:inB p 1 7=false:=by simp [inB];omega
  rw [hib];have hn:ncN false p= []:=rfl;rw [hn];clear hB1;have hB1:=zb_ w (.cells z3 30);go_enter Tryz.func51,Tryz.ntmps51;by_cases h1:p<1
  ·go_wp2;exact bodyPost_ret (v:= .tuple #[.agg z3,false]) (by simp [results,Tryz.results51,go_sem]) rfl ⟨_,rfl,World.ownsRow_nil _ _ _ _,hB1⟩
  have h2:7<p:=by omega
  go_wp2;exact bodyPost_ret (v:= .tuple #[.agg z3,false]) (by simp [results,Tryz.results51,go_sem]) rfl ⟨_,rfl,World.ownsRow_nil _ _ _ _,hB1⟩
 have hib:inB p 1 7=true:=by simp [inB];omega
 obtain⟨pn,rfl⟩:=Int.eq_ofNat_of_zero_le (show 0≤p from by omega);have hn:ncN true pn=yo_ pn pn:=by simp [ncN]
 rw [hib,hn];have hp1:1≤pn:=by omega
 have hp7:pn≤7:=by omega
 clear hn hq;obtain⟨W0,hW0,hB,X,Y,_⟩:=al2 w z3 30 z3 30;have hz0:=Y.1;clear X1 hB1;have q1:¬(pn:Int)<1:=by omega
 have q2:¬7<(pn:Int):=by omega
 go_enter Tryz.func51,Tryz.ntmps51;go_wp2;rw [←hW0];clear hW0
 go_loopw [16] (fun i wr=>∃(k:Nat) (z:Value),k≤pn∧i= .int .i64 k∧Box wr w.heap.size z3∧Box wr (w.heap.size+1) [z,(),()]∧wr.ownsRow (w.heap.size+1+1) 42 9 z k (zI_ (yo_ pn k))∧Below w.heap.size w wr) (fun i _=>pn-(intOf i).toNat)
 case atStart=>exact⟨0,.slice none 0 0,Nat.zero_le _,rfl,X,Y,World.ownsRow_nil _ _ _ _,hB⟩
 case round=>
  obtain⟨k,z,hk,rfl,Xr,Yr,hown,hb⟩:=hrel;clear X Y hB;obtain⟨za,zc,rfl⟩:=ze_ hown;have hz:=Yr.1;by_cases hlt:k<pn
  ·have KN:=fun W=>rs_ k pn W;rw [show xE_ (k:Int) pn=true from by simp [xE_,inB] <;>omega] at KN;simp only [sel,if_true] at KN;go_wp2_with fail;refine (KN _).mono ?_;rintro e w1 ⟨rfl,hb1⟩;replace Xr:=Xr.below hb1;replace Yr:=Yr.below hb1;replace hown:=zd_ hown hb1;replace hb:=za_ hb hb1;have hz1:=hb1.size;clear KN hb1;have BA:=zb_ w1 (.cells #[k,pn,(0:Int),(-1:Int),(),(0:Int),(0:Int),(),()] 42);have MB:=Box.new w1 #[k,pn,(0:Int),(-1:Int),(),(0:Int),(0:Int),(),()] 42;replace Xr:=Xr.below BA;replace Yr:=Yr.below BA;replace hown:=zd_ hown BA;replace hb:=za_ hb BA;clear BA;obtain⟨W1,hW1⟩:∃W1,W1=w1.alloc (.cells #[k,pn,(0:Int),(-1:Int),(),(0:Int),(0:Int),(),()] 42):=⟨_,rfl⟩;rw [←hW1] at Xr Yr hown hb MB;have hz2:w1.heap.size<W1.heap.size:=by rw [hW1];simp
   obtain⟨yl,y0,y1,y2⟩:=Yr.c3;obtain⟨ml,m0,m1,m2,m3,m4,m5,m6,m7,m8⟩:=MB.e9;go_upto_region 8 with fail;rw [←hW1];clear hW1;have BA:=zb_ W1 (.cells #[k,pn,(0:Int),(-1:Int),(),(0:Int),(0:Int),(),()] 42);have NB:=Box.new W1 #[k,pn,(0:Int),(-1:Int),(),(0:Int),(0:Int),(),()] 42;have o2:=zd_ hown BA;replace Xr:=Xr.below BA;replace Yr:=Yr.below BA;replace hb:=za_ hb BA;clear BA hown MB;go_wp2_with (at_builtin;refine xx_ _ rfl _ _ rfl rfl (w.heap.size+1+1) _ k (yo_ pn k) rfl o2 W1.heap.size ⟨newN k pn,none,0,none,0,none,0⟩ rfl NB (by omega) (by simp;omega) ?_;intro v' w' hown hgr;refine zs_.go ?_);have gl:=zg_ o2;have hb4:Below (w.heap.size+1+1) (W1.alloc (.cells #[k,pn,(0:Int),(-1:Int),(),(0:Int),(0:Int),(),()] 42)) w':=(Below.refl _ _).grown hgr (by simp;omega) (fun q hq=>gl q hq);replace Xr:=Xr.under hb4 (by omega);replace Yr:=Yr.under hb4 (by omega);replace hb:=hb.trans (hb4.mono (by omega));clear hgr o2 NB gl hb4 yl y0 y1 y2 ml m0 m1 m2 m3 m4 m5 m6 m7 m8;rw [←uz_] at hown;obtain⟨va,vc,rfl⟩:=ze_ hown;have gh:=zg_ hown;obtain⟨yl,y0,y1,y2⟩:=Yr.c3;have f0:=Yr.2.2 0;have hC:Chg (fun q=>q=w.heap.size+1) w' (w'.setCell ⟨w.heap.size+1,0,none⟩ (.slice va (k+1) vc)):=Chg.setCell (S:=fun q=>q=w.heap.size+1) (Chg.refl _ _) rfl _;have X2:=hC.box Xr (by omega);have Y2:Box (w'.setCell ⟨w.heap.size+1,0,none⟩ (.slice va (k+1) vc)) (w.heap.size+1) [.slice va (k+1) vc,(),()]:=Yr.set 0 _ (by simp);have HO:=hC.owns hown (fun q hq e=>by have:=gh q hq;omega);have hbz:=hb.size;have hB2:=hb.trans (hC.below (B:=w.heap.size) hb.size (fun q hq=>by omega));clear hC hown Xr Yr hb gh;unfold zs_;go_wp2;go_roundw
   case rel=>exact⟨k+1,_,by omega,by go_num,X2,Y2,HO,hB2⟩
   case measure=>simp [intOf];omega
  ·obtain rfl:k=pn:=by omega
   have hC:=uZ_ wr w.heap.size (.slice za k zc) () ();have Z:=ta_ Xr (.slice za k zc) () ();have gh:=zg_ hown;have o9:=hC.owns (zf_ hown (show w.heap.size≤w.heap.size+1+1 from by omega)) (fun q hq e=>by have:=gh q hq;have e:q=w.heap.size:=e;omega);have hBE:=hb.trans (hC.b1 hb.size (by omega));obtain⟨xl,x0,x1,x2⟩:=Xr.c3;obtain⟨f0,f1,f2⟩:=Xr.f3;obtain⟨yl,y0,y1,y2⟩:=Yr.c3;clear hC hown Xr Yr hb gh;obtain⟨zl,t0,t1,t2⟩:=Z.c3;clear Z;unfold put3 at*;go_wp2;exact bodyPost_ret (v:= .tuple #[.agg #[.slice za k zc,(),()],true]) (by simp [results,Tryz.results51,go_sem,t0,t1,t2]) rfl ⟨_,rfl,by rw [xF_];exact o9,hBE⟩
theorem tw_ (p:Int) (w:World):
  Calls Tryz.prog 49 #[p] w fun e w'=>∃u,e= .returned (.tuple #[.agg #[u,(),()],.bool (inB p 1 7)])∧w'.ownsRow w.heap.size 42 9 u (ncN (inB p 1 7) p).length (zI_ (ncN (inB p 1 7) p))∧Below w.heap.size w w':=by
 have hB1:=zb_ w (.cells z3 30);have X1:=Box.new w z3 30;have KP:=fun W=>yF_ p W;by_cases hq:1≤p∧p≤7;rotate_left
 ·have hib:inB p 1 7=false:=by simp [inB];omega
  rw [hib];have hn:ncN false p= []:=rfl;rw [hn];rw [hib] at KP;go_enter Tryz.func49,Tryz.ntmps49;go_wp2_with fail;refine (KP _).mono ?_;rintro e w1 ⟨rfl,hw⟩;subst hw;clear KP;go_wp2;exact bodyPost_ret (v:= .tuple #[.agg z3,false]) (by simp [results,Tryz.results49,go_sem]) rfl ⟨_,rfl,World.ownsRow_nil _ _ _ _,hB1⟩
 have hib:inB p 1 7=true:=by simp [inB];omega
 obtain⟨pn,rfl⟩:=Int.eq_ofNat_of_zero_le (show 0≤p from by omega);have hn:ncN true pn=yo_ pn pn:=by simp [ncN]
 rw [hib,hn];have hp1:1≤pn:=by omega
 have hp7:pn≤7:=by omega
 clear hn hq;obtain⟨W0,hW0,hB,X,Y,_⟩:=al2 w z3 30 z3 30;have hz0:=Y.1;clear X1 hB1;rw [hib] at KP;clear hib;go_enter Tryz.func49,Tryz.ntmps49;go_wp2_with fail;refine (KP _).mono ?_;rintro e w1 ⟨rfl,hw⟩;subst hw;clear KP;go_wp2;rw [←hW0];clear hW0
 go_loopw [5] (fun i wr=>∃(k:Nat) (z:Value),k≤pn∧i= .int .i64 k∧Box wr w.heap.size z3∧Box wr (w.heap.size+1) [z,(),()]∧wr.ownsRow (w.heap.size+1+1) 42 9 z k (zI_ (yo_ pn k))∧Below w.heap.size w wr) (fun i _=>pn-(intOf i).toNat)
 case atStart=>exact⟨0,.slice none 0 0,Nat.zero_le _,rfl,X,Y,World.ownsRow_nil _ _ _ _,hB⟩
 case round=>
  obtain⟨k,z,hk,rfl,Xr,Yr,hown,hb⟩:=hrel;clear X Y hB;obtain⟨za,zc,rfl⟩:=ze_ hown;have hz:=Yr.1;by_cases hlt:k<pn
  ·have KN:=fun W=>rh_ k pn W;rw [show xE_ (k:Int) pn=true from by simp [xE_,inB] <;>omega] at KN;simp only [sel,if_true] at KN;go_wp2_with fail;refine (KN _).mono ?_;rintro e w1 ⟨rfl,hb1⟩;replace Xr:=Xr.below hb1;replace Yr:=Yr.below hb1;replace hown:=zd_ hown hb1;replace hb:=za_ hb hb1;have hz1:=hb1.size;clear KN hb1;have BA:=zb_ w1 (.cells #[k,pn,(0:Int),(-1:Int),(),(0:Int),(0:Int),(),()] 42);have MB:=Box.new w1 #[k,pn,(0:Int),(-1:Int),(),(0:Int),(0:Int),(),()] 42;replace Xr:=Xr.below BA;replace Yr:=Yr.below BA;replace hown:=zd_ hown BA;replace hb:=za_ hb BA;clear BA;obtain⟨W1,hW1⟩:∃W1,W1=w1.alloc (.cells #[k,pn,(0:Int),(-1:Int),(),(0:Int),(0:Int),(),()] 42):=⟨_,rfl⟩;rw [←hW1] at Xr Yr hown hb MB;have hz2:w1.heap.size<W1.heap.size:=by rw [hW1];simp
   obtain⟨yl,y0,y1,y2⟩:=Yr.c3;obtain⟨ml,m0,m1,m2,m3,m4,m5,m6,m7,m8⟩:=MB.e9;go_upto_region 8 with fail;rw [←hW1];clear hW1;have BA:=zb_ W1 (.cells #[k,pn,(0:Int),(-1:Int),(),(0:Int),(0:Int),(),()] 42);have NB:=Box.new W1 #[k,pn,(0:Int),(-1:Int),(),(0:Int),(0:Int),(),()] 42;have o2:=zd_ hown BA;replace Xr:=Xr.below BA;replace Yr:=Yr.below BA;replace hb:=za_ hb BA;clear BA hown MB;go_wp2_with (at_builtin;refine xx_ _ rfl _ _ rfl rfl (w.heap.size+1+1) _ k (yo_ pn k) rfl o2 W1.heap.size ⟨newN k pn,none,0,none,0,none,0⟩ rfl NB (by omega) (by simp;omega) ?_;intro v' w' hown hgr;refine zs_.go ?_);have gl:=zg_ o2;have hb4:Below (w.heap.size+1+1) (W1.alloc (.cells #[k,pn,(0:Int),(-1:Int),(),(0:Int),(0:Int),(),()] 42)) w':=(Below.refl _ _).grown hgr (by simp;omega) (fun q hq=>gl q hq);replace Xr:=Xr.under hb4 (by omega);replace Yr:=Yr.under hb4 (by omega);replace hb:=hb.trans (hb4.mono (by omega));clear hgr o2 NB gl hb4 yl y0 y1 y2 ml m0 m1 m2 m3 m4 m5 m6 m7 m8;rw [←uz_] at hown;obtain⟨va,vc,rfl⟩:=ze_ hown;have gh:=zg_ hown;obtain⟨yl,y0,y1,y2⟩:=Yr.c3;have f0:=Yr.2.2 0;have hC:Chg (fun q=>q=w.heap.size+1) w' (w'.setCell ⟨w.heap.size+1,0,none⟩ (.slice va (k+1) vc)):=Chg.setCell (S:=fun q=>q=w.heap.size+1) (Chg.refl _ _) rfl _;have X2:=hC.box Xr (by omega);have Y2:Box (w'.setCell ⟨w.heap.size+1,0,none⟩ (.slice va (k+1) vc)) (w.heap.size+1) [.slice va (k+1) vc,(),()]:=Yr.set 0 _ (by simp);have HO:=hC.owns hown (fun q hq e=>by have:=gh q hq;omega);have hbz:=hb.size;have hB2:=hb.trans (hC.below (B:=w.heap.size) hb.size (fun q hq=>by omega));clear hC hown Xr Yr hb gh;unfold zs_;go_wp2;go_roundw
   case rel=>exact⟨k+1,_,by omega,by go_num,X2,Y2,HO,hB2⟩
   case measure=>simp [intOf];omega
  ·obtain rfl:k=pn:=by omega
   have hC:=uZ_ wr w.heap.size (.slice za k zc) () ();have Z:=ta_ Xr (.slice za k zc) () ();have gh:=zg_ hown;have o9:=hC.owns (zf_ hown (show w.heap.size≤w.heap.size+1+1 from by omega)) (fun q hq e=>by have:=gh q hq;have e:q=w.heap.size:=e;omega);have hBE:=hb.trans (hC.b1 hb.size (by omega));obtain⟨xl,x0,x1,x2⟩:=Xr.c3;obtain⟨f0,f1,f2⟩:=Xr.f3;obtain⟨yl,y0,y1,y2⟩:=Yr.c3;clear hC hown Xr Yr hb gh;obtain⟨zl,t0,t1,t2⟩:=Z.c3;clear Z;unfold put3 at*;go_wp2;exact bodyPost_ret (v:= .tuple #[.agg #[.slice za k zc,(),()],true]) (by simp [results,Tryz.results49,go_sem,t0,t1,t2]) rfl ⟨_,rfl,by rw [xF_];exact o9,hBE⟩
end Go.Proofs.YtapfhhmimkkhnaaGreat
