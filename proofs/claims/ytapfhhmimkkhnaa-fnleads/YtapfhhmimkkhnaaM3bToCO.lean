/-
  A message is good: the specification's side.
  A good cluster: the program's side.
  Marks, plainly.
  NewNode: both sides and the law's walk.
  NewCluster: both sides.
-/
import Derived.Test.YtapfhhmimkkhnaaM2bToH0
import Derived.Test.YtapfhhmimkkhnaaRF9ToCE
import Derived.Test.YtapfhhmimkkhnaaN1ToA3
import Derived.Deep.Cut
namespace Go.Proofs.Ytapfhhmimkkhnaa
open Go.RowKit
set_option linter.unusedVariables false
set_option maxRecDepth 100000
set_option maxHeartbeats 8000000
def restB (ki te ix be co:Int) (ye:Bool) (es:List En):Bool:=
 if ki=3 then !ye&&((gE te 0 es&&decide ((es.length:Int)≤60))&&decide (ix+(es.length:Int)≤60))
 else !carB es.length co&&(if ki=1 then !ye else if ki=2 then decide (ix=0)&&decide (be=0) else decide (ki=4)&&decide (be=0))
theorem goodM_spec (pe ki fr dst te ix be co:Int) (ye:Bool) (es:List En):goodM pe ki fr dst te ix be co ye es=
  (inB pe 1 7&&(!decide (fr=dst)&&(inB fr 0 (pe-1)&&(inB dst 0 (pe-1)&&(inB te 1 1000&&(inB ix 0 60&&(inB be 0 1000&&(inB co 0 60&&restB ki te ix be co ye es)))))))):=by
 unfold goodM restB;by_cases k1:ki=1
 ·subst k1;rw [kindB_1];unfold carB;generalize es.length=n;rw [Bool.eq_iff_iff]
  cases ye <;>simp [zW_,inB,isP] <;>omega
 by_cases k2:ki=2
 ·subst k2;rw [kindB_2];unfold carB;generalize es.length=n;rw [Bool.eq_iff_iff];simp [inB,isP];omega
 by_cases k3:ki=3
 ·subst k3;rw [kindB_3];unfold loadB;generalize es.length=n;generalize gE te 0 es=g;rw [Bool.eq_iff_iff]
  cases ye <;>cases g <;>simp [zW_,inB,isP] <;>omega
 by_cases k4:ki=4
 ·subst k4;rw [kindB_4];unfold carB;generalize es.length=n;rw [Bool.eq_iff_iff];simp [zW_,inB,isP];omega
 ·rw [kindB_x _ _ _ _ _ _ _ k1 k2 k3 k4];simp [k1,k2,k3,k4]
theorem restB_3 (te ix be co:Int) (ye:Bool) (es:List En):restB 3 te ix be co ye es=(!ye&&((gE te 0 es&&decide ((es.length:Int)≤60))&&decide (ix+(es.length:Int)≤60))):=by simp [restB]
theorem restB_1 (te ix be co:Int) (ye:Bool) (es:List En):restB 1 te ix be co ye es=(!carB es.length co&& !ye):=by simp [restB]
theorem restB_2 (te ix be co:Int) (ye:Bool) (es:List En):restB 2 te ix be co ye es=(!carB es.length co&&(decide (ix=0)&&decide (be=0))):=by simp [restB]
theorem restB_4 (te ix be co:Int) (ye:Bool) (es:List En):restB 4 te ix be co ye es=(!carB es.length co&&decide (be=0)):=by simp [restB]
theorem restB_x (ki te ix be co:Int) (ye:Bool) (es:List En) (h1:¬ki=1) (h2:¬ki=2) (h3:¬ki=3) (h4:¬ki=4):restB ki te ix be co ye es=false:=by simp [restB,h1,h2,h3,h4]
theorem specGoodM_any (pe ki fr dst te ix be co:Int) (ye:Bool) (ve:Value) (es:List En) (w:World) (he:ER w ve es) (ne:es.length≤1048576) (ns:∀i (h:i<es.length),es[i].d.size≤1048576):
  Calls Try.prog 96 #[.agg #[ki,fr,dst,te,ix,be,ve,co,ye],pe] w fun e w'=>e= .returned (.bool (goodM pe ki fr dst te ix be co ye es))∧Below w.heap.size w w':=by
 have hB:=zc_ w (.cells #[ki,fr,dst,te,ix,be,ve,co,ye] 38);have X:=Box.new w #[ki,fr,dst,te,ix,be,ve,co,ye] 38;have HO:Hid (goodM pe ki fr dst te ix be co ye es=(inB pe 1 7&&(!decide (fr=dst)&&(inB fr 0 (pe-1)&&(inB dst 0 (pe-1)&&(inB te 1 1000&&(inB ix 0 60&&(inB be 0 1000&&(inB co 0 60&&restB ki te ix be co ye es))))))))):=goodM_spec _ _ _ _ _ _ _ _ _ _;have KP:=fun W=>l11Peers_any pe W;have K1:=fun W=>zs_ fr 0 (pe-1) W;have K2:=fun W=>zs_ dst 0 (pe-1) W;have K3:=fun W=>zs_ te 1 1000 W;have K4:=fun W=>zs_ ix 0 60 W;have K5:=fun W=>zs_ be 0 1000 W;have K6:=fun W=>zs_ co 0 60 W;have KE:=l11Entries_any ve es te _ (he.below hB) ne ns;have C0:(carB es.length co=true∧(0<es.length∨(es.length=0∧¬co=0)))∨(carB es.length co=false∧es.length=0∧co=0):=by
  unfold carB;rcases Nat.eq_zero_or_pos es.length with h | h
  ·by_cases h2:co=0
   ·exact .inr ⟨by simp [h,h2],h,h2⟩
   ·exact .inl ⟨by simp [h2],.inr ⟨h,h2⟩⟩
  ·exact .inl ⟨by simp [List.length_pos_iff] at h ⊢;simp [h],.inl h⟩
 generalize goodM pe ki fr dst te ix be co ye es=R at*;generalize hb1:inB pe 1 7=b1 at*;generalize inB fr 0 (pe-1)=b2 at*;generalize inB dst 0 (pe-1)=b3 at*;generalize inB te 1 1000=b4 at*;generalize hb5:inB ix 0 60=b5 at*;generalize inB be 0 1000=b6 at*;generalize inB co 0 60=b7 at*;obtain⟨ea,ec,rfl,hec⟩:=he;clear hec ns;go_enter Try.func96,Try.ntmps96;go_wp2_with fail;refine (KP _).mono ?_;rintro e w1 ⟨rfl,hw⟩;subst hw;clear KP
 cases b1
 ·clear KE C0;go_wp2;go_ret;exact⟨by rw [HO.out];simp,hB⟩
 have pB:1≤pe∧pe≤7:=by simp [inB] at hb1;omega
 obtain⟨p1,p7⟩:=pB;clear hb1;by_cases c2:fr=dst
 ·subst c2;clear KE C0;go_wp2;go_ret;exact⟨by rw [HO.out];simp,hB⟩
 have c2b:(fr==dst)=false:=by simp [c2]
 go_wp2_with fail;refine (K1 _).mono ?_;rintro e w1 ⟨rfl,hw⟩;subst hw;clear K1
 cases b2
 ·clear KE C0;go_wp2;go_ret;exact⟨by rw [HO.out];simp,hB⟩
 go_wp2_with fail;refine (K2 _).mono ?_;rintro e w1 ⟨rfl,hw⟩;subst hw;clear K2
 cases b3
 ·clear KE C0;go_wp2;go_ret;exact⟨by rw [HO.out];simp,hB⟩
 go_wp2_with fail;refine (K3 _).mono ?_;rintro e w1 ⟨rfl,hw⟩;subst hw;clear K3
 cases b4
 ·clear KE C0;go_wp2;go_ret;exact⟨by rw [HO.out];simp,hB⟩
 go_wp2_with fail;refine (K4 _).mono ?_;rintro e w1 ⟨rfl,hw⟩;subst hw;clear K4
 cases b5
 ·clear KE C0;go_wp2;go_ret;exact⟨by rw [HO.out];simp,hB⟩
 have xB:0≤ix∧ix≤60:=by simp [inB] at hb5;omega
 obtain⟨x0',x60⟩:=xB;clear hb5;go_wp2_with fail;refine (K5 _).mono ?_;rintro e w1 ⟨rfl,hw⟩;subst hw;clear K5
 cases b6
 ·clear KE C0;go_wp2;go_ret;exact⟨by rw [HO.out];simp,hB⟩
 go_wp2_with fail;refine (K6 _).mono ?_;rintro e w1 ⟨rfl,hw⟩;subst hw;clear K6
 cases b7
 ·clear KE C0;go_wp2;go_ret;exact⟨by rw [HO.out];simp,hB⟩
 have HV:Hid (R=restB ki te ix be co ye es):=by
  show _=_;rw [HO.out,decide_eq_false c2];rfl
 clear HO;by_cases k1:ki=1
 ·subst k1;have HE:=HV.out;clear HV KE;rw [restB_1] at HE;rcases C0 with⟨hc,hn | ⟨hn,h0⟩⟩ | ⟨hc,hn,h0⟩
  ·rw [hc] at HE;have HO:Hid _:=HE;clear HE hc;generalize es.length=n at*;have hn2:(0:Int)<(n:Int):=by omega
   go_wp2;go_ret;exact⟨by rw [HO.out];simp <;>omega,hB⟩
  ·rw [hc] at HE;have HO:Hid _:=HE;clear HE hc;have h0b:(co==0)=false:=by simp [h0]
   have h0c:(co !=0)=true:=by simp [h0]
   generalize es.length=n at*;subst hn;go_wp2;go_ret;exact⟨by rw [HO.out];simp <;>omega,hB⟩
  ·rw [hc] at HE;have HO:Hid _:=HE;clear HE hc;subst h0;generalize es.length=n at*;subst hn
   cases ye
   ·go_wp2;go_ret;exact⟨by rw [HO.out];simp <;>omega,hB⟩
   go_wp2;go_ret;exact⟨by rw [HO.out];simp <;>omega,hB⟩
 by_cases k2:ki=2
 ·subst k2;have HE:=HV.out;clear HV KE;rw [restB_2] at HE;rcases C0 with⟨hc,hn | ⟨hn,h0⟩⟩ | ⟨hc,hn,h0⟩
  ·rw [hc] at HE;have HO:Hid _:=HE;clear HE hc;generalize es.length=n at*;have hn2:(0:Int)<(n:Int):=by omega
   go_wp2;go_ret;exact⟨by rw [HO.out];simp <;>omega,hB⟩
  ·rw [hc] at HE;have HO:Hid _:=HE;clear HE hc;have h0b:(co==0)=false:=by simp [h0]
   have h0c:(co !=0)=true:=by simp [h0]
   generalize es.length=n at*;subst hn;go_wp2;go_ret;exact⟨by rw [HO.out];simp <;>omega,hB⟩
  ·rw [hc] at HE;have HO:Hid _:=HE;clear HE hc;subst h0;generalize es.length=n at*;subst hn;by_cases z1:ix=0;rotate_left
   ·have z1b:(ix==0)=false:=by simp [z1]
    go_wp2;go_ret;exact⟨by rw [HO.out];simp [z1],hB⟩
   subst z1;by_cases z2:be=0;rotate_left
   ·have z2b:(be==0)=false:=by simp [z2]
    go_wp2;go_ret;exact⟨by rw [HO.out];simp [z2],hB⟩
   subst z2;go_wp2;go_ret;exact⟨by rw [HO.out];simp <;>omega,hB⟩
 by_cases k3:ki=3
 ·subst k3;have HE:=HV.out;clear HV C0;rw [restB_3] at HE;have HO:Hid _:=HE;clear HE;generalize (gE te 0 es&&decide ((es.length:Int)≤60))=g at*;generalize es.length=n at*
  cases ye
  rotate_left
  ·clear KE;go_wp2;go_ret;exact⟨by rw [HO.out];simp,hB⟩
  go_wp2_with fail;refine KE.mono ?_;rintro e w2 ⟨rfl,hb⟩;replace hB:=za_ hB hb;replace X:=X.below hb;clear KE hb;obtain⟨hxl,x0,x1,x2,x3,x4,x5,x6,x7,x8⟩:=X.e9
  cases g
  ·go_wp2;go_ret;exact⟨by rw [HO.out];simp,hB⟩
  by_cases z:ix+(n:Int)≤60
  all_goals
   go_wp2;go_ret;exact⟨by rw [HO.out];simp <;>omega,hB⟩
 by_cases k4:ki=4
 ·subst k4;have HE:=HV.out;clear HV KE;rw [restB_4] at HE;rcases C0 with⟨hc,hn | ⟨hn,h0⟩⟩ | ⟨hc,hn,h0⟩
  ·rw [hc] at HE;have HO:Hid _:=HE;clear HE hc;generalize es.length=n at*;have hn2:(0:Int)<(n:Int):=by omega
   go_wp2;go_ret;exact⟨by rw [HO.out];simp <;>omega,hB⟩
  ·rw [hc] at HE;have HO:Hid _:=HE;clear HE hc;have h0b:(co==0)=false:=by simp [h0]
   have h0c:(co !=0)=true:=by simp [h0]
   generalize es.length=n at*;subst hn;go_wp2;go_ret;exact⟨by rw [HO.out];simp <;>omega,hB⟩
  ·rw [hc] at HE;have HO:Hid _:=HE;clear HE hc;subst h0;generalize es.length=n at*;subst hn;by_cases z2:be=0;rotate_left
   ·have z2b:(be==0)=false:=by simp [z2]
    go_wp2;go_ret;exact⟨by rw [HO.out];simp [z2],hB⟩
   subst z2;go_wp2;go_ret;exact⟨by rw [HO.out];simp <;>omega,hB⟩
 have HE:=HV.out;clear HV KE;rw [restB_x _ _ _ _ _ _ _ k1 k2 k3 k4] at HE;have HO:Hid _:=HE;clear HE;have k4b:(ki==4)=false:=by simp [k4]
 have k3b:(ki !=3)=true:=by simp [k3]
 rcases C0 with⟨hc,hn | ⟨hn,h0⟩⟩ | ⟨hc,hn,h0⟩
 ·clear hc;generalize es.length=n at*;have hn2:(0:Int)<(n:Int):=by omega
  go_wp2;go_ret;exact⟨by rw [HO.out];try rfl,hB⟩
 ·clear hc;have h0b:(co==0)=false:=by simp [h0]
  have h0c:(co !=0)=true:=by simp [h0]
  generalize es.length=n at*;subst hn;go_wp2;go_ret;exact⟨by rw [HO.out];try rfl,hB⟩
 ·clear hc;subst h0;generalize es.length=n at*;subst hn;go_wp2;go_ret;exact⟨by rw [HO.out];try rfl,hB⟩
end Go.Proofs.Ytapfhhmimkkhnaa
namespace Go.Proofs.Ytapfhhmimkkhnaa
open Go.RowKit Go.Maps
set_option linter.unusedVariables false
set_option maxRecDepth 100000
def gNd (x:Nd):Bool:=zk_ x.id x.pe x.te x.vo x.co x.ro x.log x.vs x.mt
def gMs (p:Nat) (q:Ms):Bool:=goodM p q.ki q.fr q.dst q.te q.ix q.be q.co q.ye q.es
def ndOk (p:Nat) (k:Nat) (x:Nd):Bool:=gNd x&&(decide (x.id=(k:Int))&&decide (x.pe=(p:Int)))
def ldOk (p:Nat) (x:Ld):Bool:=(decide (1≤x.t)&&decide (x.t≤1000))&&isP x.n p
def nodesOk (N:List Nd):Bool:=decide (∀i (h:i<N.length),ndOk N.length i N[i]=true)
def netOk (p:Nat) (M:List Ms):Bool:=decide (∀i (h:i<M.length),gMs p M[i]=true)
def leadsOk (p:Nat) (L:List Ld):Bool:=decide (∀i (h:i<L.length),ldOk p L[i]=true)
def goodC (N:List Nd) (M:List Ms) (L:List Ld):Bool:=
 (decide (1≤N.length)&&decide (N.length≤7))&&(nodesOk N&&(decide (M.length≤60)&&(netOk N.length M&&(decide (L.length≤1000)&&leadsOk N.length L))))
theorem rebase {w:World} {base c:Nat} {e:TypeId} {size:Nat} {v:Value} {n:Nat} {xs:List Value} (h:w.ownsRow base e size v n xs) (hb:∀g,v.ownBlock=some g→c≤g):w.ownsRow c e size v n xs:=by
 refine⟨h.1,?_⟩;rcases h.2 with h0 | ⟨g,cap,cur,hv,hbg,r⟩
 ·exact .inl h0
 ·exact .inr ⟨g,cap,cur,hv,hb g (by rw [hv];rfl),r⟩
theorem PN.rebase {w:World} {b c:Nat} {x:Nv} (h:PN w b x) (hb:∀g,BN x g→c≤g):PN w c x:=
 ⟨Go.Proofs.Ytapfhhmimkkhnaa.rebase h.l fun g hg=>hb g (.inl hg),Go.Proofs.Ytapfhhmimkkhnaa.rebase h.v fun g hg=>hb g (.inr (.inl hg)),Go.Proofs.Ytapfhhmimkkhnaa.rebase h.m fun g hg=>hb g (.inr (.inr hg)),OwnN.ne h⟩
theorem PM.rebase {w:World} {b c:Nat} {x:Mv} (h:PM w b x) (hb:∀g,BM x g→c≤g):PM w c x:=Go.Proofs.Ytapfhhmimkkhnaa.rebase h hb
theorem PN.row_ne {w:World} {b b2 e2 s2 n2:Nat} {v2:Value} {x:Nv} {ys:List Value} (h:PN w b x) (h2:w.ownsRow b2 e2 s2 v2 n2 ys) (q1:34≠e2) (q2:3≠e2):∀b,BN x b→¬v2.ownBlock=some b:=by
 rintro b (hb | hb | hb)
 ·exact zi_ h.l h2 q1 b hb
 ·exact zi_ h.v h2 q2 b hb
 ·exact zi_ h.m h2 q2 b hb
theorem PM.row_ne {w:World} {b b2 e2 s2 n2:Nat} {v2:Value} {x:Mv} {ys:List Value} (h:PM w b x) (h2:w.ownsRow b2 e2 s2 v2 n2 ys) (q1:34≠e2):∀b,BM x b→¬v2.ownBlock=some b:=fun b hb=>zi_ h h2 q1 b hb
theorem zz_.setN {w w':World} {lo hi g base:Nat} {l:List Nv} (h:zz_ PN BN w lo hi l) (j:Nat) (hj:j<l.length) (x':Nv) (hx:∀b,BN x' b→BN l[j] b) (hp:PN w' base x') (hc:Chg (fun b=>b=g∨BN l[j] b) w w') (hg:∀i (hi:i<l.length),¬BN l[i] g):zz_ PN BN w' lo hi (l.set j x'):=by
 refine⟨h.1,fun i hi'=> ?_,fun i k h1 h2 hik b=> ?_⟩
 ·simp only [List.length_set] at hi';by_cases hij:j=i
  ·subst hij;simp only [List.getElem_set_self];exact⟨⟨lo,Nat.le_refl _,PN.rebase hp fun g hg=>((h.2.1 j hj).2 g (hx g hg)).1⟩,fun b hb=>(h.2.1 j hj).2 b (hx b hb)⟩
  ·simp only [List.getElem_set_ne hij];obtain⟨⟨c,hc0,q⟩,hb⟩:=h.2.1 i hi';refine⟨⟨c,hc0,OwnN.chg q hc (fun b h1 h2=> ?_)⟩,hb⟩;rcases h2 with rfl | h2
   ·exact hg i hi' h1
   ·exact h.2.2 i j hi' hj (fun e=>hij e.symm) b h1 h2
 ·simp only [List.length_set] at h1 h2;by_cases hij:j=i
  ·subst hij;simp only [List.getElem_set_self,List.getElem_set_ne hik];exact fun h3=>h.2.2 j k hj h2 hik b (hx b h3)
  ·simp only [List.getElem_set_ne hij];by_cases hjk:j=k
   ·subst hjk;simp only [List.getElem_set_self];exact fun h3 h4=>h.2.2 i j h1 hj hik b h3 (hx b h4)
   ·simp only [List.getElem_set_ne hjk];exact h.2.2 i k h1 h2 hik b
end Go.Proofs.Ytapfhhmimkkhnaa
namespace Go.Proofs.Ytapfhhmimkkhnaa
open Go.RowKit
set_option linter.unusedVariables false
set_option maxRecDepth 100000
set_option maxHeartbeats 2000000
def sel (b:Bool) (x:Int):Int:=if b then x else 0
def newOk (id pe:Int):Bool:=inB pe 1 7&&inB id 0 (pe-1)
theorem specNew_any (id pe:Int) (w:World):
  Calls Try.prog 88 #[id,pe] w fun e w'=>e= .returned (.tuple #[.agg #[(sel (newOk id pe) id:Int),(sel (newOk id pe) pe:Int),(0:Int),(sel (newOk id pe) (-1):Int),(),(0:Int),(0:Int),(),()],.bool (newOk id pe)])∧Below w.heap.size w w':=by
 have hB:=zc_ w (.cells zN 26);have KP:=fun W=>l11Peers_any pe W;have K1:=fun W=>zs_ id 0 (pe-1) W;have HO:Hid (newOk id pe=(inB pe 1 7&&inB id 0 (pe-1))):=rfl;generalize newOk id pe=ok at*;generalize hb1:inB pe 1 7=b1 at*;generalize inB id 0 (pe-1)=b2 at*;go_enter Try.func88,Try.ntmps88;go_wp2_with fail;refine (KP _).mono ?_;rintro e w1 ⟨rfl,hw⟩;subst hw
 cases b1
 ·go_wp2;refine bodyPost_ret (v:= .tuple #[.agg zN,false]) (by simp [results,Try.results88,go_sem]) rfl ⟨by rw [HO.out];simp [sel],?_⟩;exact zc_ _ _
 have pB:1≤pe∧pe≤7:=by simp [inB] at hb1;omega
 obtain⟨p1,p7⟩:=pB;clear hb1 KP;go_wp2_with fail;refine (K1 _).mono ?_;rintro e w1 ⟨rfl,hw⟩;subst hw;clear K1
 cases b2
 ·go_wp2;refine bodyPost_ret (v:= .tuple #[.agg zN,false]) (by simp [results,Try.results88,go_sem]) rfl ⟨by rw [HO.out];simp [sel],?_⟩;exact zc_ _ _
 ·go_wp2;refine bodyPost_ret (v:= .tuple #[.agg #[id,pe,(0:Int),(-1:Int),(),(0:Int),(0:Int),(),()],true]) (by simp [results,Try.results88,go_sem]) rfl ⟨by rw [HO.out];simp [sel],?_⟩;exact zc_ _ _
end Go.Proofs.Ytapfhhmimkkhnaa
namespace Go.Proofs.Ytapfhhmimkkhnaa
open Go.RowKit Go.Maps
set_option linter.unusedVariables false
set_option maxRecDepth 100000
set_option maxHeartbeats 16000000
def newN (i p:Int):Nd:=⟨i,p,0,-1,0,0,[],[],[]⟩
def newNs (p:Int) (k:Nat):List Nv:=(List.range k).map fun i:Nat=>⟨newN i p,none,0,none,0,none,0⟩
theorem newNs_length (p:Int) (k:Nat):(newNs p k).length=k:=by simp [newNs]
theorem newNs_succ (p:Int) (k:Nat):newNs p (k+1)=newNs p k++ [⟨newN k p,none,0,none,0,none,0⟩]:=by simp [newNs,List.range_succ]
theorem newNs_at (p:Int) (k i:Nat) (h:i<(newNs p k).length):(newNs p k)[i]=⟨newN i p,none,0,none,0,none,0⟩:=by simp [newNs]
def ncN (ok:Bool) (p:Int):List Nv:=if ok then newNs p p.toNat else []
theorem wpList_append_nd (w:World) {ops:Array Oper} {rest:List Oper} {o:Oper} {a:Act} {Q:Exit→Act→World→Prop} (hgd:o.guard=none) (s y:Operand)
  (ho:o.op= .call ⟨.builtin .append,#[s,y],#[57,57]⟩) (hty:o.type=57)
  (base:Nat) (v:Value) (n:Nat) (zs:List Nv) (hs:a.eval s=v) (hown:w.ownsRow base 26 9 v n (zH_ zs))
  (b:Nat) (x:Nv) (hx:a.eval y= .slice (some ⟨b,0,none⟩) 1 1) (hI:Box w b x) (hn:n+1≤2000000) (hbase:base≤w.heap.size)
  (h:∀v' w',w'.ownsRow base 26 9 v' (n+1) (zH_ (zs++ [x]))→w.grownBy w' v.ownBlock→wpList Try.prog ops Q rest (a.put o.dst v') w'):wpList Try.prog ops Q (o::rest) a w:=by
 obtain⟨i0,hi,hz0,hzs,hzb⟩:=info_parts Try.info26;refine wpList_append_own _ hgd s y 57 ho base 26 i0 (.agg zN) 9 120 Try.underlying57 hi hz0 hzs hzb rfl (by decide) v n (zH_ zs) hs hown ⟨b,0,none⟩ 1 1 (zH_ [x]) hx rfl ?_ ?_ (by unfold maxLen;omega) (by omega) hbase fun v' w' h1 h2 _=>h v' w' (by rw [flatN_append];exact h1) h2
 ·intro j u hj;rw [show (⟨b,0,none⟩:Addr).add j=⟨b,j,none⟩ from by simp [Addr.add];omega];exact hI.2.1 j u hj
 ·intro u hu;simp only [zH_,List.mem_cons,List.not_mem_nil,or_false] at hu;rcases hu with rfl | rfl | rfl | rfl | rfl | rfl | rfl | rfl | rfl <;>rfl
theorem specNewC_any (p:Int) (w:World):
  Calls Try.prog 33 #[p] w fun e w'=>∃u,e= .returned (.tuple #[.agg #[u,(),()],.bool (inB p 1 7)])∧w'.ownsRow w.heap.size 26 9 u (ncN (inB p 1 7) p).length (zH_ (ncN (inB p 1 7) p))∧Below w.heap.size w w':=by
 have hB1:=zc_ w (.cells z3 60);have X1:=Box.new w z3 60;have KP:=fun W=>l11Peers_any p W;by_cases hq:1≤p∧p≤7;rotate_left
 ·have hib:inB p 1 7=false:=by simp [inB];omega
  rw [hib];have hn:ncN false p= []:=rfl;rw [hn];rw [hib] at KP;go_enter Try.func33,Try.ntmps33;go_wp2_with fail;refine (KP _).mono ?_;rintro e w1 ⟨rfl,hw⟩;subst hw;clear KP;go_wp2;exact bodyPost_ret (v:= .tuple #[.agg z3,false]) (by simp [results,Try.results33,go_sem]) rfl ⟨_,rfl,World.ownsRow_nil _ _ _ _,hB1⟩
 have hib:inB p 1 7=true:=by simp [inB];omega
 obtain⟨pn,rfl⟩:=Int.eq_ofNat_of_zero_le (show 0≤p from by omega);have hn:ncN true pn=newNs pn pn:=by simp [ncN]
 rw [hib,hn];have hp1:1≤pn:=by omega
 have hp7:pn≤7:=by omega
 clear hn hq;obtain⟨W0,hW0,hB,X,Y,_⟩:=al2 w z3 60 z3 60;have hz0:=Y.1;clear X1 hB1;rw [hib] at KP;clear hib;go_enter Try.func33,Try.ntmps33;go_wp2_with fail;refine (KP _).mono ?_;rintro e w1 ⟨rfl,hw⟩;subst hw;clear KP;go_wp2;rw [←hW0];clear hW0
 go_loopw [5] (fun i wr=>∃(k:Nat) (z:Value),k≤pn∧i= .int .i64 k∧Box wr w.heap.size z3∧Box wr (w.heap.size+1) [z,(),()]∧wr.ownsRow (w.heap.size+1+1) 26 9 z k (zH_ (newNs pn k))∧Below w.heap.size w wr) (fun i _=>pn-(intOf i).toNat)
 case atStart=>exact⟨0,.slice none 0 0,Nat.zero_le _,rfl,X,Y,World.ownsRow_nil _ _ _ _,hB⟩
 case round=>
  obtain⟨k,z,hk,rfl,Xr,Yr,hown,hb⟩:=hrel;clear X Y hB;obtain⟨za,zc,rfl⟩:=zf_ hown;have hz:=Yr.1;by_cases hlt:k<pn
  ·have KN:=fun W=>specNew_any k pn W;rw [show newOk (k:Int) pn=true from by simp [newOk,inB] <;>omega] at KN;simp only [sel,if_true] at KN;go_wp2_with fail;refine (KN _).mono ?_;rintro e w1 ⟨rfl,hb1⟩;replace Xr:=Xr.below hb1;replace Yr:=Yr.below hb1;replace hown:=zd_ hown hb1;replace hb:=za_ hb hb1;have hz1:=hb1.size;clear KN hb1;have BA:=zc_ w1 (.cells #[k,pn,(0:Int),(-1:Int),(),(0:Int),(0:Int),(),()] 26);have MB:=Box.new w1 #[k,pn,(0:Int),(-1:Int),(),(0:Int),(0:Int),(),()] 26;replace Xr:=Xr.below BA;replace Yr:=Yr.below BA;replace hown:=zd_ hown BA;replace hb:=za_ hb BA;clear BA;obtain⟨W1,hW1⟩:∃W1,W1=w1.alloc (.cells #[k,pn,(0:Int),(-1:Int),(),(0:Int),(0:Int),(),()] 26):=⟨_,rfl⟩;rw [←hW1] at Xr Yr hown hb MB;have hz2:w1.heap.size<W1.heap.size:=by rw [hW1];simp
   obtain⟨yl,y0,y1,y2⟩:=Yr.c3;obtain⟨ml,m0,m1,m2,m3,m4,m5,m6,m7,m8⟩:=MB.e9;go_upto_region 8 with fail;rw [←hW1];clear hW1;have BA:=zc_ W1 (.cells #[k,pn,(0:Int),(-1:Int),(),(0:Int),(0:Int),(),()] 26);have NB:=Box.new W1 #[k,pn,(0:Int),(-1:Int),(),(0:Int),(0:Int),(),()] 26;have o2:=zd_ hown BA;replace Xr:=Xr.below BA;replace Yr:=Yr.below BA;replace hb:=za_ hb BA;clear BA hown MB;go_wp2_with (at_builtin;refine wpList_append_nd _ rfl _ _ rfl rfl (w.heap.size+1+1) _ k (newNs pn k) rfl o2 W1.heap.size ⟨newN k pn,none,0,none,0,none,0⟩ rfl NB (by omega) (by simp;omega) ?_;intro v' w' hown hgr;refine zB_.go ?_);have gl:=ze_ o2;have hb4:Below (w.heap.size+1+1) (W1.alloc (.cells #[k,pn,(0:Int),(-1:Int),(),(0:Int),(0:Int),(),()] 26)) w':=(Below.refl _ _).grown hgr (by simp;omega) (fun q hq=>gl q hq);replace Xr:=Xr.under hb4 (by omega);replace Yr:=Yr.under hb4 (by omega);replace hb:=hb.trans (hb4.mono (by omega));clear hgr o2 NB gl hb4 yl y0 y1 y2 ml m0 m1 m2 m3 m4 m5 m6 m7 m8;rw [←newNs_succ] at hown;obtain⟨va,vc,rfl⟩:=zf_ hown;have gh:=ze_ hown;obtain⟨yl,y0,y1,y2⟩:=Yr.c3;have f0:=Yr.2.2 0;have hC:Chg (fun q=>q=w.heap.size+1) w' (w'.setCell ⟨w.heap.size+1,0,none⟩ (.slice va (k+1) vc)):=Chg.setCell (S:=fun q=>q=w.heap.size+1) (Chg.refl _ _) rfl _;have X2:=hC.box Xr (by omega);have Y2:Box (w'.setCell ⟨w.heap.size+1,0,none⟩ (.slice va (k+1) vc)) (w.heap.size+1) [.slice va (k+1) vc,(),()]:=Yr.set 0 _ (by simp);have HO:=hC.owns hown (fun q hq e=>by have:=gh q hq;omega);have hbz:=hb.size;have hB2:=hb.trans (hC.below (B:=w.heap.size) hb.size (fun q hq=>by omega));clear hC hown Xr Yr hb gh;unfold zB_;go_wp2;go_roundw
   case rel=>exact⟨k+1,_,by omega,by go_num,X2,Y2,HO,hB2⟩
   case measure=>simp [intOf];omega
  ·obtain rfl:k=pn:=by omega
   have hC:=put3_chg wr w.heap.size (.slice za k zc) () ();have Z:=put3_box Xr (.slice za k zc) () ();have gh:=ze_ hown;have o9:=hC.owns (zg_ hown (show w.heap.size≤w.heap.size+1+1 from by omega)) (fun q hq e=>by have:=gh q hq;have e:q=w.heap.size:=e;omega);have hBE:=hb.trans (hC.b1 hb.size (by omega));obtain⟨xl,x0,x1,x2⟩:=Xr.c3;obtain⟨f0,f1,f2⟩:=Xr.f3;obtain⟨yl,y0,y1,y2⟩:=Yr.c3;clear hC hown Xr Yr hb gh;obtain⟨zl,t0,t1,t2⟩:=Z.c3;clear Z;unfold put3 at*;go_wp2;exact bodyPost_ret (v:= .tuple #[.agg #[.slice za k zc,(),()],true]) (by simp [results,Try.results33,go_sem,t0,t1,t2]) rfl ⟨_,rfl,by rw [newNs_length];exact o9,hBE⟩
end Go.Proofs.Ytapfhhmimkkhnaa
