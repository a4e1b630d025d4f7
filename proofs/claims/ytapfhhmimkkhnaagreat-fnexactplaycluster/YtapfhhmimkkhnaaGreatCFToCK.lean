/-
  A good cluster: the program's side.
  Marks, plainly.
  Nodes in a row, marked: markRaftNodeS.
-/
import Derived.Test.YtapfhhmimkkhnaaGreatCDToM3b
import Derived.Deep.Cut
namespace Go.Proofs.YtapfhhmimkkhnaaGreat
open Go.RowKit Go.Maps
set_option linter.unusedVariables false
set_option maxRecDepth 100000
set_option maxHeartbeats 16000000
def gNd (x:Nd):Bool:=zn_ x.id x.pe x.te x.vo x.co x.ro x.log x.vs x.mt
def gMs (p:Nat) (q:Ms):Bool:=goodM p q.ki q.fr q.dst q.te q.ix q.be q.co q.ye q.es
def ndOk (p:Nat) (k:Nat) (x:Nd):Bool:=gNd x&&(decide (x.id=(k:Int))&&decide (x.pe=(p:Int)))
def ldOk (p:Nat) (x:Ld):Bool:=(decide (1≤x.t)&&decide (x.t≤1000))&&isP x.n p
def nodesOk (N:List Nd):Bool:=decide (∀i (h:i<N.length),ndOk N.length i N[i]=true)
def netOk (p:Nat) (M:List Ms):Bool:=decide (∀i (h:i<M.length),gMs p M[i]=true)
def leadsOk (p:Nat) (L:List Ld):Bool:=decide (∀i (h:i<L.length),ldOk p L[i]=true)
def goodC (N:List Nd) (M:List Ms) (L:List Ld):Bool:=
 (decide (1≤N.length)&&decide (N.length≤7))&&(nodesOk N&&(decide (M.length≤60)&&(netOk N.length M&&(decide (L.length≤1000)&&leadsOk N.length L))))
theorem nodesOk_false {N:List Nv} {k:Nat} (h:k<N.length) (e:ndOk N.length k N[k].n=false):nodesOk (N.map Nv.n)=false:=by
 refine decide_eq_false fun ha=> ?_;have:=ha k (by simpa using h);simp [e] at this
theorem nodesOk_true {N:List Nv} (ha:∀j (h:j<N.length),ndOk N.length j N[j].n=true):nodesOk (N.map Nv.n)=true:=by
 refine decide_eq_true fun i hi=> ?_;simp only [List.length_map] at hi;simpa using ha i hi
theorem netOk_false {p:Nat} {M:List Mv} {k:Nat} (h:k<M.length) (e:gMs p M[k].q=false):netOk p (M.map Mv.q)=false:=by
 refine decide_eq_false fun ha=> ?_;have:=ha k (by simpa using h);simp [e] at this
theorem netOk_true {p:Nat} {M:List Mv} (ha:∀j (h:j<M.length),gMs p M[j].q=true):netOk p (M.map Mv.q)=true:=by
 refine decide_eq_true fun i hi=> ?_;simp only [List.length_map] at hi;simpa using ha i hi
theorem leadsOk_false {p:Nat} {L:List Ld} {k:Nat} (h:k<L.length) (e:ldOk p L[k]=false):leadsOk p L=false:=by
 refine decide_eq_false fun ha=> ?_;have:=ha k h;simp [e] at this
theorem leadsOk_true {p:Nat} {L:List Ld} (ha:∀j (h:j<L.length),ldOk p L[j]=true):leadsOk p L=true:=decide_eq_true ha
theorem hasNode_any (i:Int) (n m l:Nat) (na:Option Addr) (nc:Nat) (xa:Option Addr) (xc:Nat) (ya:Option Addr) (yc:Nat) (w:World):
  Calls Tryz.prog 74 #[.agg #[.slice na n nc,.slice xa m xc,.slice ya l yc],i] w fun e w'=>e= .returned (.bool (isP i n))∧Below w.heap.size w w':=by
 have KP:=fun W=>isPeer_any i n W;have hB:=zb_ w (.cells #[.slice na n nc,.slice xa m xc,.slice ya l yc] 30);go_enter Tryz.func74,Tryz.ntmps74;go_wp2_with fail;refine (KP _).mono ?_;rintro e w1 ⟨rfl,hw⟩;subst hw;clear KP;go_wp2;go_ret;exact⟨rfl,hB⟩
theorem hasGoodNodes_any (vn vm vl:Value) (N:List Nv) (M:List Mv) (L:List Ld) (w:World) (h:CR w vn vm vl N M L) (hs:CS N M L):
  Calls Tryz.prog 36 #[.agg #[vn,vm,vl]] w fun e w'=>e= .returned (.bool (nodesOk (N.map Nv.n)))∧Below w.heap.size w w':=by
 obtain⟨⟨na,nc,hcn⟩,⟨xa,xc,hcm⟩,ya,yc,hcl⟩:=h.shapes;subst hcn;subst hcm;subst hcl;have hB:=zb_ w (.cells #[.slice na N.length nc,.slice xa M.length xc,.slice ya L.length yc] 30);have X:=Box.new w #[.slice na N.length nc,.slice xa M.length xc,.slice ya L.length yc] 30;have HEN:=fun k (hk:k<N.length) W (hb:Below w.heap.size w W)=>(h.ne k hk).below hb;have HEM:=fun k (hk:k<M.length) W (hb:Below w.heap.size w W)=>(h.me k hk).below hb;obtain⟨a1,c1,e1,hcN⟩:=h.n;obtain⟨a2,c2,e2,hcM⟩:=h.m;obtain⟨a3,c3,e3,hcL⟩:=h.l;simp only [Value.slice.injEq,true_and] at e1 e2 e3;obtain⟨rfl,rfl⟩:=e1;obtain⟨rfl,rfl⟩:=e2;obtain⟨rfl,rfl⟩:=e3;have hNl:=hs.n;have hMl:=hs.m;have hLl:=hs.l;clear h;clear hcM hcL HEM;go_enter Tryz.func36,Tryz.ntmps36;go_wp2
 go_loopw [8] (fun i wr=>∃k:Nat,k≤N.length∧i= .int .i64 k∧(∀j (h:j<N.length),j<k→ndOk N.length j N[j].n=true)∧Below w.heap.size w wr∧Box wr w.heap.size [.slice na N.length nc,.slice xa M.length xc,.slice ya L.length yc]) (fun i _=>N.length-(intOf i).toNat)
 case atStart=>exact⟨0,Nat.zero_le _,rfl,fun j _ h=>absurd h (Nat.not_lt_zero j),hB,X⟩
 case round=>
  obtain⟨k,hk,rfl,hall,hb,X⟩:=hrel;clear hB;by_cases hlt:k<N.length
  ·obtain⟨b,off,rfl,hbl,hcell⟩:=hcN (by intro e;simp [e] at hlt);obtain⟨z0,z1,z2,z3,z4,z5,z6,z7,z8⟩:=hcell k hlt;have hc0:=(hb.cell (p:=⟨b,off+k*9,none⟩) hbl).trans z0;have hc1:=(hb.cell (p:=⟨b,off+k*9+1,none⟩) hbl).trans z1;have hc2:=(hb.cell (p:=⟨b,off+k*9+2,none⟩) hbl).trans z2;have hc3:=(hb.cell (p:=⟨b,off+k*9+3,none⟩) hbl).trans z3;have hc4:=(hb.cell (p:=⟨b,off+k*9+4,none⟩) hbl).trans z4;have hc5:=(hb.cell (p:=⟨b,off+k*9+5,none⟩) hbl).trans z5;have hc6:=(hb.cell (p:=⟨b,off+k*9+6,none⟩) hbl).trans z6;have hc7:=(hb.cell (p:=⟨b,off+k*9+7,none⟩) hbl).trans z7;have hc8:=(hb.cell (p:=⟨b,off+k*9+8,none⟩) hbl).trans z8;have hE:=HEN k hlt _ hb;have hS:=hs.ne k hlt;have hS2:=hs.ns k hlt;have HF:Hid (ndOk N.length k N[k].n=false→nodesOk (N.map Nv.n)=false):=fun e=>nodesOk_false hlt e;have HA:Hid (ndOk N.length k N[k].n=true→∀j (h:j<N.length),j<k+1→ndOk N.length j N[j].n=true):=fun e j h hj=>by
    by_cases hjk:j<k
    ·exact hall j h hjk
    ·obtain rfl:j=k:=by omega
     exact e
   clear hcell hcN HEN hs hall z0 z1 z2 z3 z4 z5 z6 z7 z8;generalize N[k]=s at*;obtain⟨⟨id,pe,te,vo,co,ro,log,vs,mt⟩,la,lc,va,vc,ma,mc⟩:=s;dsimp only at hc0 hc1 hc2 hc3 hc4 hc5 hc6 hc7 hc8 hE hS hS2 HF HA;have hz:=hb.size;have hB0:=hb.alloc hz (.cells #[id,pe,te,vo,.slice la log.length lc,co,ro,.slice va vs.length vc,.slice ma mt.length mc] 42);have X0:=Box.new wr #[id,pe,te,vo,.slice la log.length lc,co,ro,.slice va vs.length vc,.slice ma mt.length mc] 42;have hBw:=zb_ wr (.cells #[id,pe,te,vo,.slice la log.length lc,co,ro,.slice va vs.length vc,.slice ma mt.length mc] 42);have KG:=zO_ id pe te vo co ro _ _ _ log vs mt _ (hE.1.below hBw) (hE.2.1.below hBw) (hE.2.2.below hBw) hS.1 hS.2.1 hS.2.2 hS2;replace X:=X.below hBw;have HD:Hid (ndOk N.length k ⟨id,pe,te,vo,co,ro,log,vs,mt⟩=(zn_ id pe te vo co ro log vs mt&&(decide (id=(k:Int))&&decide (pe=(N.length:Int))))):=rfl;clear hE hS hS2 hBw;dsimp only at KG;generalize zn_ id pe te vo co ro log vs mt=ge at*;go_wp2_with fail;refine KG.mono ?_;rintro e w1 ⟨rfl,hb1⟩;have hB1:=hB0.trans (hb1.mono hB0.size);replace X:=X.below hb1;have X1:=X0.below hb1;obtain⟨hx0,v0,v1,v2,v3,v4,v5,v6,v7,v8⟩:=X1.e9;obtain⟨hxl,x0,x1,x2⟩:=X.c3;clear KG hB0 X0 hb1 hb
   cases ge with
   | false=>
    have HV:Hid (nodesOk (N.map Nv.n)=false):=HF.out (by rw [HD.out];rfl);clear HF HA HD;go_wp2;go_ret;exact⟨by rw [HV.out];try rfl,hB1⟩
   | true=>
    by_cases h1:id=(k:Int)
    ·subst h1;by_cases h2:pe=(N.length:Int)
     ·subst h2;have HA2:=HA.out (by rw [HD.out];simp);clear HF HA HD;go_wp2;go_roundw
      case rel=>exact⟨k+1,by omega,by go_num,HA2,hB1,X⟩
      case measure=>simp [intOf];omega
     ·have HV:Hid (nodesOk (N.map Nv.n)=false):=HF.out (by rw [HD.out];simp [h2]);have h2b:(pe !=(N.length:Int))=true:=by simp [h2]
      clear HF HA HD;go_wp2;go_ret;exact⟨by rw [HV.out];try rfl,hB1⟩
    ·have HV:Hid (nodesOk (N.map Nv.n)=false):=HF.out (by rw [HD.out];simp [h1]);have h1b:(id !=(k:Int))=true:=by simp [h1]
     clear HF HA HD;go_wp2;go_ret;exact⟨by rw [HV.out];try rfl,hB1⟩
  ·have hk:k=N.length:=by omega
   have HAN:Hid (∀j (h:j<N.length),ndOk N.length j N[j].n=true):=fun j h=>hall j h (by omega);clear hall;have hB1:=hb;obtain⟨hxl,x0,x1,x2⟩:=X.c3;have HV:Hid (nodesOk (N.map Nv.n)=true):=nodesOk_true HAN.out;clear hcN HEN hs HAN X;subst hk;go_wp2;go_ret;exact⟨by rw [HV.out];try rfl,hB1⟩
theorem hasGoodNet_any (vn vm vl:Value) (N:List Nv) (M:List Mv) (L:List Ld) (w:World) (h:CR w vn vm vl N M L) (hs:CS N M L):
  Calls Tryz.prog 37 #[.agg #[vn,vm,vl]] w fun e w'=>e= .returned (.bool (netOk N.length (M.map Mv.q)))∧Below w.heap.size w w':=by
 obtain⟨⟨na,nc,hcn⟩,⟨xa,xc,hcm⟩,ya,yc,hcl⟩:=h.shapes;subst hcn;subst hcm;subst hcl;have hB:=zb_ w (.cells #[.slice na N.length nc,.slice xa M.length xc,.slice ya L.length yc] 30);have X:=Box.new w #[.slice na N.length nc,.slice xa M.length xc,.slice ya L.length yc] 30;have HEN:=fun k (hk:k<N.length) W (hb:Below w.heap.size w W)=>(h.ne k hk).below hb;have HEM:=fun k (hk:k<M.length) W (hb:Below w.heap.size w W)=>(h.me k hk).below hb;obtain⟨a1,c1,e1,hcN⟩:=h.n;obtain⟨a2,c2,e2,hcM⟩:=h.m;obtain⟨a3,c3,e3,hcL⟩:=h.l;simp only [Value.slice.injEq,true_and] at e1 e2 e3;obtain⟨rfl,rfl⟩:=e1;obtain⟨rfl,rfl⟩:=e2;obtain⟨rfl,rfl⟩:=e3;have hNl:=hs.n;have hMl:=hs.m;have hLl:=hs.l;clear h;clear hcN hcL HEN;go_enter Tryz.func37,Tryz.ntmps37;go_wp2
 go_loopw [8] (fun i wr=>∃k:Nat,k≤M.length∧i= .int .i64 k∧(∀j (h:j<M.length),j<k→gMs N.length M[j].q=true)∧Below w.heap.size w wr∧Box wr w.heap.size [.slice na N.length nc,.slice xa M.length xc,.slice ya L.length yc]) (fun i _=>M.length-(intOf i).toNat)
 case atStart=>exact⟨0,Nat.zero_le _,rfl,fun j _ h=>absurd h (Nat.not_lt_zero j),hB,X⟩
 case round=>
  obtain⟨k,hk,rfl,hall,hb,X⟩:=hrel;clear hB;by_cases hlt:k<M.length
  ·obtain⟨b,off,rfl,hbl,hcell⟩:=hcM (by intro e;simp [e] at hlt);obtain⟨z0,z1,z2,z3,z4,z5,z6,z7,z8⟩:=hcell k hlt;have hc0:=(hb.cell (p:=⟨b,off+k*9,none⟩) hbl).trans z0;have hc1:=(hb.cell (p:=⟨b,off+k*9+1,none⟩) hbl).trans z1;have hc2:=(hb.cell (p:=⟨b,off+k*9+2,none⟩) hbl).trans z2;have hc3:=(hb.cell (p:=⟨b,off+k*9+3,none⟩) hbl).trans z3;have hc4:=(hb.cell (p:=⟨b,off+k*9+4,none⟩) hbl).trans z4;have hc5:=(hb.cell (p:=⟨b,off+k*9+5,none⟩) hbl).trans z5;have hc6:=(hb.cell (p:=⟨b,off+k*9+6,none⟩) hbl).trans z6;have hc7:=(hb.cell (p:=⟨b,off+k*9+7,none⟩) hbl).trans z7;have hc8:=(hb.cell (p:=⟨b,off+k*9+8,none⟩) hbl).trans z8;have hE:=HEM k hlt _ hb;have hS:=hs.me k hlt;have hS2:=hs.ms k hlt;have HF:Hid (gMs N.length M[k].q=false→netOk N.length (M.map Mv.q)=false):=fun e=>netOk_false hlt e;have HA:Hid (gMs N.length M[k].q=true→∀j (h:j<M.length),j<k+1→gMs N.length M[j].q=true):=fun e j h hj=>by
    by_cases hjk:j<k
    ·exact hall j h hjk
    ·obtain rfl:j=k:=by omega
     exact e
   clear hcell hcM HEM hs hall z0 z1 z2 z3 z4 z5 z6 z7 z8;generalize M[k]=s at*;obtain⟨⟨ki,fr,dst,te,ix,be,co,ye,es⟩,ea,ec⟩:=s;dsimp only at hc0 hc1 hc2 hc3 hc4 hc5 hc6 hc7 hc8 hE hS hS2 HF HA;have hz:=hb.size;have hB0:=hb.alloc hz (.cells #[ki,fr,dst,te,ix,be,.slice ea es.length ec,co,ye] 80);have X0:=Box.new wr #[ki,fr,dst,te,ix,be,.slice ea es.length ec,co,ye] 80;have hBw:=zb_ wr (.cells #[ki,fr,dst,te,ix,be,.slice ea es.length ec,co,ye] 80);have KG:=implGoodM_any N.length ki fr dst te ix be co ye _ es _ (ER.below hE hBw) hS hS2;replace X:=X.below hBw;have HD:Hid (gMs N.length ⟨ki,fr,dst,te,ix,be,co,ye,es⟩=goodM N.length ki fr dst te ix be co ye es):=rfl;clear hE hS hS2 hBw;dsimp only at KG;generalize goodM N.length ki fr dst te ix be co ye es=ge at*;obtain⟨hxl,x0,x1,x2⟩:=X.c3;go_wp2_with fail;refine KG.mono ?_;rintro e w1 ⟨rfl,hb1⟩;have hB1:=hB0.trans (hb1.mono hB0.size);replace X:=X.below hb1;clear KG hB0 X0 hb1 hb hxl x0 x1 x2
   cases ge with
   | false=>
    have HV:Hid (netOk N.length (M.map Mv.q)=false):=HF.out HD.out;clear HF HA HD;go_wp2;go_ret;exact⟨by rw [HV.out];try rfl,hB1⟩
   | true=>
    have HA2:=HA.out HD.out;clear HF HA HD;go_wp2;go_roundw
    case rel=>exact⟨k+1,by omega,by go_num,HA2,hB1,X⟩
    case measure=>simp [intOf];omega
  ·have hk:k=M.length:=by omega
   have HAM:Hid (∀j (h:j<M.length),gMs N.length M[j].q=true):=fun j h=>hall j h (by omega);clear hall;have hB1:=hb;obtain⟨hxl,x0,x1,x2⟩:=X.c3;have HV:Hid (netOk N.length (M.map Mv.q)=true):=netOk_true HAM.out;clear hcM HEM hs HAM X;subst hk;go_wp2;go_ret;exact⟨by rw [HV.out];try rfl,hB1⟩
theorem hasGoodLeads_any (vn vm vl:Value) (N:List Nv) (M:List Mv) (L:List Ld) (w:World) (h:CR w vn vm vl N M L) (hs:CS N M L):
  Calls Tryz.prog 38 #[.agg #[vn,vm,vl]] w fun e w'=>e= .returned (.bool (leadsOk N.length L))∧Below w.heap.size w w':=by
 obtain⟨⟨na,nc,hcn⟩,⟨xa,xc,hcm⟩,ya,yc,hcl⟩:=h.shapes;subst hcn;subst hcm;subst hcl;have hB:=zb_ w (.cells #[.slice na N.length nc,.slice xa M.length xc,.slice ya L.length yc] 30);have X:=Box.new w #[.slice na N.length nc,.slice xa M.length xc,.slice ya L.length yc] 30;have HEN:=fun k (hk:k<N.length) W (hb:Below w.heap.size w W)=>(h.ne k hk).below hb;have HEM:=fun k (hk:k<M.length) W (hb:Below w.heap.size w W)=>(h.me k hk).below hb;obtain⟨a1,c1,e1,hcN⟩:=h.n;obtain⟨a2,c2,e2,hcM⟩:=h.m;obtain⟨a3,c3,e3,hcL⟩:=h.l;simp only [Value.slice.injEq,true_and] at e1 e2 e3;obtain⟨rfl,rfl⟩:=e1;obtain⟨rfl,rfl⟩:=e2;obtain⟨rfl,rfl⟩:=e3;have hNl:=hs.n;have hMl:=hs.m;have hLl:=hs.l;clear h;clear hcN hcM HEN HEM;go_enter Tryz.func38,Tryz.ntmps38;go_wp2
 go_loopw [8] (fun i wr=>∃k:Nat,k≤L.length∧i= .int .i64 k∧(∀j (h:j<L.length),j<k→ldOk N.length L[j]=true)∧Below w.heap.size w wr∧Box wr w.heap.size [.slice na N.length nc,.slice xa M.length xc,.slice ya L.length yc]) (fun i _=>L.length-(intOf i).toNat)
 case atStart=>exact⟨0,Nat.zero_le _,rfl,fun j _ h=>absurd h (Nat.not_lt_zero j),hB,X⟩
 case round=>
  obtain⟨k,hk,rfl,hall,hb,X⟩:=hrel;clear hB;by_cases hlt:k<L.length
  ·obtain⟨b,off,rfl,hbl,hcell⟩:=hcL (by intro e;simp [e] at hlt);obtain⟨z0,z1⟩:=hcell k hlt;have hc0:=(hb.cell (p:=⟨b,off+k*2,none⟩) hbl).trans z0;have hc1:=(hb.cell (p:=⟨b,off+k*2+1,none⟩) hbl).trans z1;have HF:Hid (ldOk N.length L[k]=false→leadsOk N.length L=false):=fun e=>leadsOk_false hlt e;have HA:Hid (ldOk N.length L[k]=true→∀j (h:j<L.length),j<k+1→ldOk N.length L[j]=true):=fun e j h hj=>by
    by_cases hjk:j<k
    ·exact hall j h hjk
    ·obtain rfl:j=k:=by omega
     exact e
   clear hcell hcL hall z0 z1 hs;generalize L[k]=s at*;obtain⟨t,n⟩:=s;dsimp only at hc0 hc1 HF HA;have hz:=hb.size;have hB0:=hb.alloc hz (.cells #[t,n] 34);have X0:=Box.new wr #[t,n] 34;replace X:=X.below (zb_ wr (.cells #[t,n] 34));obtain⟨hxl,x0,x1,x2⟩:=X.c3;have KP:=fun W=>hasNode_any n N.length M.length L.length na nc xa xc (some ⟨b,off,none⟩) yc W;have HD:Hid (ldOk N.length ⟨t,n⟩=((decide (1≤t)&&decide (t≤1000))&&isP n N.length)):=rfl;generalize isP n (N.length:Int)=ip at*;by_cases h1:t<1
   ·have HV:Hid (leadsOk N.length L=false):=HF.out (by rw [HD.out,decide_eq_false (show ¬1≤t from by omega)];rfl);have hB1:=hB0;clear HF HA HD KP;go_wp2;go_ret;exact⟨by rw [HV.out];try rfl,hB1⟩
   by_cases h2:1000<t
   ·have HV:Hid (leadsOk N.length L=false):=HF.out (by rw [HD.out,decide_eq_false (show ¬t≤1000 from by omega)];simp);have hB1:=hB0;clear HF HA HD KP;go_wp2;go_ret;exact⟨by rw [HV.out];try rfl,hB1⟩
   go_wp2_with fail;refine (KP _).mono ?_;rintro e w1 ⟨rfl,hb1⟩;have hB1:=hB0.trans (hb1.mono hB0.size);replace X:=X.below hb1;clear KP hB0 X0 hb1 hb hxl x0 x1 x2
   cases ip with
   | false=>
    have HV:Hid (leadsOk N.length L=false):=HF.out (by rw [HD.out];simp);clear HF HA HD;go_wp2;go_ret;exact⟨by rw [HV.out];try rfl,hB1⟩
   | true=>
    have HA2:=HA.out (by rw [HD.out,decide_eq_true (show 1≤t from by omega),decide_eq_true (show t≤1000 from by omega)];rfl);clear HF HA HD;go_wp2;go_roundw
    case rel=>exact⟨k+1,by omega,by go_num,HA2,hB1,X⟩
    case measure=>simp [intOf];omega
  ·have hk:k=L.length:=by omega
   have HAL:Hid (∀j (h:j<L.length),ldOk N.length L[j]=true):=fun j h=>hall j h (by omega);clear hall;have hB1:=hb;obtain⟨hxl,x0,x1,x2⟩:=X.c3;have HV:Hid (leadsOk N.length L=true):=leadsOk_true HAL.out;clear hcL hs HAL X;subst hk;go_wp2;go_ret;exact⟨by rw [HV.out];try rfl,hB1⟩
theorem implGoodC_any (vn vm vl:Value) (N:List Nv) (M:List Mv) (L:List Ld) (w:World) (h:CR w vn vm vl N M L) (hs:CS N M L):
  Calls Tryz.prog 11 #[.agg #[vn,vm,vl]] w fun e w'=>e= .returned (.bool (goodC (N.map Nv.n) (M.map Mv.q) L))∧Below w.heap.size w w':=by
 have K1:=fun W (hb:Below w.heap.size w W)=>hasGoodNodes_any vn vm vl N M L W (h.below hb) hs;have K2:=fun W (hb:Below w.heap.size w W)=>hasGoodNet_any vn vm vl N M L W (h.below hb) hs;have K3:=fun W (hb:Below w.heap.size w W)=>hasGoodLeads_any vn vm vl N M L W (h.below hb) hs;have HG:Hid (goodC (N.map Nv.n) (M.map Mv.q) L=((decide (1≤N.length)&&decide (N.length≤7))&&(nodesOk (N.map Nv.n)&&(decide (M.length≤60)&&(netOk N.length (M.map Mv.q)&&(decide (L.length≤1000)&&leadsOk N.length L)))))):=by show _=_;unfold goodC;simp only [List.length_map]
 rw [HG.out];clear HG;obtain⟨⟨na,nc,hcn⟩,⟨xa,xc,hcm⟩,ya,yc,hcl⟩:=h.shapes;subst hcn;subst hcm;subst hcl;have hB:=zb_ w (.cells #[.slice na N.length nc,.slice xa M.length xc,.slice ya L.length yc] 30);have X:=Box.new w #[.slice na N.length nc,.slice xa M.length xc,.slice ya L.length yc] 30;clear h hs;generalize nodesOk (N.map Nv.n)=b1 at*;generalize netOk N.length (M.map Mv.q)=b2 at*;generalize leadsOk N.length L=b3 at*;generalize N.length=n at*;generalize M.length=m at*;generalize L.length=l at*;obtain⟨G,HG⟩:∃G,Hid ((decide (1≤n)&&decide (n≤7)&&(b1&&(decide (m≤60)&&(b2&&(decide (l≤1000)&&b3)))))=G):=⟨(decide (1≤n)&&decide (n≤7)&&(b1&&(decide (m≤60)&&(b2&&(decide (l≤1000)&&b3))))),rfl⟩;rw [HG.out];by_cases h1:1≤n;rotate_left
 ·have HV:Hid (false=G):=by have:=HG.out;simp [h1] at this;rw [←this];try rfl
  have h1b:¬(1:Int)≤(n:Int):=by omega
  clear K1 K2 K3;go_enter Tryz.func11,Tryz.ntmps11;go_wp2;go_ret;exact⟨by rw [←HV.out];try rfl,hB⟩
 have h1b:(1:Int)≤(n:Int):=by omega
 by_cases h2:n≤7;rotate_left
 ·have HV:Hid (false=G):=by have:=HG.out;simp [h2] at this;rw [←this];try rfl
  have h2b:¬(n:Int)≤7:=by omega
  clear K1 K2 K3;go_enter Tryz.func11,Tryz.ntmps11;go_wp2;go_ret;exact⟨by rw [←HV.out];try rfl,hB⟩
 have h2b:(n:Int)≤7:=by omega
 go_enter Tryz.func11,Tryz.ntmps11;go_wp2_with fail;refine (K1 _ hB).mono ?_;rintro e w1 ⟨rfl,hb⟩;replace hB:=za_ hB hb;replace X:=X.below hb;clear hb K1;obtain⟨hxl,x0,x1,x2⟩:=X.c3
 cases b1 with
 | false=>
  have HV:Hid (false=G):=by have:=HG.out;simp at this;rw [←this];try rfl
  clear K2 K3;go_wp2;go_ret;exact⟨by rw [←HV.out];try rfl,hB⟩
 | true=>
 by_cases h3:m≤60;rotate_left
 ·have HV:Hid (false=G):=by have:=HG.out;simp [h3] at this;rw [←this];try rfl
  have h3b:¬(m:Int)≤60:=by omega
  clear K2 K3;go_wp2;go_ret;exact⟨by rw [←HV.out];try rfl,hB⟩
 have h3b:(m:Int)≤60:=by omega
 go_wp2_with fail;refine (K2 _ hB).mono ?_;rintro e w2 ⟨rfl,hb⟩;replace hB:=za_ hB hb;replace X:=X.below hb;clear hb K2 hxl x0 x1 x2;obtain⟨hxl,x0,x1,x2⟩:=X.c3
 cases b2 with
 | false=>
  have HV:Hid (false=G):=by have:=HG.out;simp at this;rw [←this];try rfl
  clear K3;go_wp2;go_ret;exact⟨by rw [←HV.out];try rfl,hB⟩
 | true=>
 by_cases h4:l≤1000;rotate_left
 ·have HV:Hid (false=G):=by have:=HG.out;simp [h4] at this;rw [←this];try rfl
  have h4b:¬(l:Int)≤1000:=by omega
  clear K3;go_wp2;go_ret;exact⟨by rw [←HV.out];try rfl,hB⟩
 have h4b:(l:Int)≤1000:=by omega
 go_wp2_with fail;refine (K3 _ hB).mono ?_;rintro e w3 ⟨rfl,hb⟩;replace hB:=za_ hB hb;clear hb K3 hxl x0 x1 x2 X;go_wp2;go_ret;have HV:Hid (b3=G):=by have:=HG.out;simp [h1,h2,h3,h4] at this;exact this
 exact⟨by rw [←HV.out];try rfl,hB⟩
set_option maxHeartbeats 200000
def mkZ (k:Int) (n:Nat):List Int:=(List.range n).map fun i:Nat=>k+(i:Int)
theorem zS_ (k:Int) (n:Nat):(mkZ k n).length=n:=by simp [mkZ]
theorem mkI_mkZ (k:Int) (n:Nat):mkI k n=(mkZ k n).map (.int .i64):=by simp [mkI,mkZ]
def mkL {α:Type} (mk:Int→α→α) (u:α→Nat):Int→List α→List α
 | _,[]=> []
 | k,x::r=>mk k x::mkL mk u (k+u x) r
theorem zH_ {α:Type} (mk:Int→α→α) (u:α→Nat) (k:Int) (l:List α):(mkL mk u k l).length=l.length:=by
 induction l generalizing k with
 | nil=>rfl
 | cons x r ih=>simp [mkL,ih]
theorem mkL_at {α:Type} (mk:Int→α→α) (u:α→Nat) (k:Int) (l:List α) (i:Nat) (h:i<l.length):(mkL mk u k l)[i]'(by rw [zH_];exact h)=mk (k+(sm u (l.take i):Nat)) l[i]:=by
 induction l generalizing k i with
 | nil=>simp at h
 | cons x r ih=>
  cases i with
  | zero=>simp [mkL,sm]
  | succ i=>
   simp only [mkL,List.getElem_cons_succ,List.take_succ_cons,sm];rw [ih (k+u x) i (by simpa using h)]
   congr 1
   omega
def mkP {α:Type} (mk:Int→α→α) (u:α→Nat) (k:Int) (l:List α) (j:Nat):List α:=(mkL mk u k l).take j++l.drop j
theorem mkP_zero {α:Type} (mk:Int→α→α) (u:α→Nat) (k:Int) (l:List α):mkP mk u k l 0=l:=by simp [mkP]
theorem mkP_all {α:Type} (mk:Int→α→α) (u:α→Nat) (k:Int) (l:List α):mkP mk u k l l.length=mkL mk u k l:=by
 unfold mkP;rw [List.drop_length,List.append_nil];exact List.take_of_length_le (by rw [zH_];exact Nat.le_refl _)
theorem mkP_length {α:Type} (mk:Int→α→α) (u:α→Nat) (k:Int) (l:List α) (j:Nat) (h:j≤l.length):(mkP mk u k l j).length=l.length:=by simp [mkP,zH_];omega
theorem mkP_at {α:Type} (mk:Int→α→α) (u:α→Nat) (k:Int) (l:List α) (j:Nat) (h:j<l.length):(mkP mk u k l j)[j]'(by rw [mkP_length _ _ _ _ _ (by omega)];exact h)=l[j]:=by
 have e:((mkL mk u k l).take j).length=j:=by simp [zH_];omega
 simp only [mkP];rw [List.getElem_append_right (by omega)];simp [e]
theorem mkP_set {α:Type} (mk:Int→α→α) (u:α→Nat) (k:Int) (l:List α) (j:Nat) (h:j<l.length):(mkP mk u k l j).set j (mk (k+(sm u (l.take j):Nat)) l[j])=mkP mk u k l (j+1):=by
 have e:((mkL mk u k l).take j).length=j:=by simp [zH_];omega
 have hm:j<(mkL mk u k l).length:=by rw [zH_];exact h
 unfold mkP;rw [List.set_append_right _ _ (by omega),e,Nat.sub_self,List.drop_eq_getElem_cons h,sB_,←mkL_at mk u k l j h,←List.take_append_getElem hm,List.append_assoc]
 rfl
theorem zR_ {α:Type} (u:α→Nat) (l:List α) (j:Nat):sm u (l.take j)≤sm u l:=by
 induction l generalizing j with
 | nil=>simp [sm]
 | cons x r ih=>
  cases j with
  | zero=>simp [sm]
  | succ j=>simp only [List.take_succ_cons,sm];have:=ih j;omega
def uN (x:Nv):Nat:=6+2*x.n.log.length+x.n.vs.length+x.n.mt.length
def uM (x:Mv):Nat:=8+2*x.q.es.length
def uL (_:Ld):Nat:=2
def mkNv (k:Int) (x:Nv):Nv:=⟨⟨k,k+1,k+1+1,k+1+1+1,k+1+1+1+1+2*x.n.log.length,k+1+1+1+1+2*x.n.log.length+1,mkEs (k+1+1+1+1) x.n.log.length,mkZ (k+1+1+1+1+2*x.n.log.length+1+1) x.n.vs.length,mkZ (k+1+1+1+1+2*x.n.log.length+1+1+x.n.vs.length) x.n.mt.length⟩,x.la,x.lc,x.va,x.vc,x.ma,x.mc⟩
def mkMv (k:Int) (x:Mv):Mv:=⟨⟨k,k+1,k+1+1,k+1+1+1,k+1+1+1+1,k+1+1+1+1+1,k+1+1+1+1+1+1+2*x.q.es.length,(k+1+1+1+1+1+1+2*x.q.es.length+1) % 3==0,mkEs (k+1+1+1+1+1+1) x.q.es.length⟩,x.ea,x.ec⟩
def mkLd (k:Int) (_:Ld):Ld:=⟨k,k+1⟩
theorem rebase {w:World} {base c:Nat} {e:TypeId} {size:Nat} {v:Value} {n:Nat} {xs:List Value} (h:w.ownsRow base e size v n xs) (hb:∀g,v.ownBlock=some g→c≤g):w.ownsRow c e size v n xs:=by
 refine⟨h.1,?_⟩;rcases h.2 with h0 | ⟨g,cap,cur,hv,hbg,r⟩
 ·exact .inl h0
 ·exact .inr ⟨g,cap,cur,hv,hb g (by rw [hv];rfl),r⟩
theorem PN.rebase {w:World} {b c:Nat} {x:Nv} (h:PN w b x) (hb:∀g,BN x g→c≤g):PN w c x:=
 ⟨Go.Proofs.YtapfhhmimkkhnaaGreat.rebase h.l fun g hg=>hb g (.inl hg),Go.Proofs.YtapfhhmimkkhnaaGreat.rebase h.v fun g hg=>hb g (.inr (.inl hg)),Go.Proofs.YtapfhhmimkkhnaaGreat.rebase h.m fun g hg=>hb g (.inr (.inr hg)),OwnN.ne h⟩
theorem PM.rebase {w:World} {b c:Nat} {x:Mv} (h:PM w b x) (hb:∀g,BM x g→c≤g):PM w c x:=Go.Proofs.YtapfhhmimkkhnaaGreat.rebase h hb
theorem PN.row_ne {w:World} {b b2 e2 s2 n2:Nat} {v2:Value} {x:Nv} {ys:List Value} (h:PN w b x) (h2:w.ownsRow b2 e2 s2 v2 n2 ys) (q1:44≠e2) (q2:3≠e2):∀b,BN x b→¬v2.ownBlock=some b:=by
 rintro b (hb | hb | hb)
 ·exact zi_ h.l h2 q1 b hb
 ·exact zi_ h.v h2 q2 b hb
 ·exact zi_ h.m h2 q2 b hb
theorem PM.row_ne {w:World} {b b2 e2 s2 n2:Nat} {v2:Value} {x:Mv} {ys:List Value} (h:PM w b x) (h2:w.ownsRow b2 e2 s2 v2 n2 ys) (q1:44≠e2):∀b,BM x b→¬v2.ownBlock=some b:=fun b hb=>zi_ h h2 q1 b hb
theorem zp_.setN {w w':World} {lo hi g base:Nat} {l:List Nv} (h:zp_ PN BN w lo hi l) (j:Nat) (hj:j<l.length) (x':Nv) (hx:∀b,BN x' b→BN l[j] b) (hp:PN w' base x') (hc:Chg (fun b=>b=g∨BN l[j] b) w w') (hg:∀i (hi:i<l.length),¬BN l[i] g):zp_ PN BN w' lo hi (l.set j x'):=by
 refine⟨h.1,fun i hi'=> ?_,fun i k h1 h2 hik b=> ?_⟩
 ·simp only [List.length_set] at hi';by_cases hij:j=i
  ·subst hij;simp only [List.getElem_set_self];exact⟨⟨lo,Nat.le_refl _,PN.rebase hp fun g hg=>((h.2.1 j hj).2 g (hx g hg)).1⟩,fun b hb=>(h.2.1 j hj).2 b (hx b hb)⟩
  ·simp only [List.getElem_set_ne hij];obtain⟨⟨c,hc0,q⟩,hb⟩:=h.2.1 i hi';refine⟨⟨c,hc0,OwnN.chg q hc (fun b h1 h2=> ?_)⟩,hb⟩;rcases h2 with rfl | h2
   ·exact hg i hi' h1
   ·exact h.2.2 i j hi' hj (fun e=>hij e.symm) b h1 h2
 ·simp only [List.length_set] at h1 h2;by_cases hij:j=i
  ·subst hij;simp only [List.getElem_set_self,List.getElem_set_ne hik];exact fun h3=>h.2.2 j k hj h2 hik b (hx b h3)
  ·simp only [List.getElem_set_ne hij];by_cases hjk:j=k
   ·subst hjk;simp only [List.getElem_set_self];exact fun h3 h4=>h.2.2 i j h1 hj hik b h3 (hx b h4)
   ·simp only [List.getElem_set_ne hjk];exact h.2.2 i k h1 h2 hik b
theorem zp_.setM {w w':World} {lo hi g base:Nat} {l:List Mv} (h:zp_ PM BM w lo hi l) (j:Nat) (hj:j<l.length) (x':Mv) (hx:∀b,BM x' b→BM l[j] b) (hp:PM w' base x') (hc:Chg (fun b=>b=g∨BM l[j] b) w w') (hg:∀i (hi:i<l.length),¬BM l[i] g):zp_ PM BM w' lo hi (l.set j x'):=by
 refine⟨h.1,fun i hi'=> ?_,fun i k h1 h2 hik b=> ?_⟩
 ·simp only [List.length_set] at hi';by_cases hij:j=i
  ·subst hij;simp only [List.getElem_set_self];exact⟨⟨lo,Nat.le_refl _,PM.rebase hp fun g hg=>((h.2.1 j hj).2 g (hx g hg)).1⟩,fun b hb=>(h.2.1 j hj).2 b (hx b hb)⟩
  ·simp only [List.getElem_set_ne hij];obtain⟨⟨c,hc0,q⟩,hb⟩:=h.2.1 i hi';refine⟨⟨c,hc0,hc.owns q (fun b h1 h2=> ?_)⟩,hb⟩;rcases h2 with rfl | h2
   ·exact hg i hi' h1
   ·exact h.2.2 i j hi' hj (fun e=>hij e.symm) b h1 h2
 ·simp only [List.length_set] at h1 h2;by_cases hij:j=i
  ·subst hij;simp only [List.getElem_set_self,List.getElem_set_ne hik];exact fun h3=>h.2.2 j k hj h2 hik b (hx b h3)
  ·simp only [List.getElem_set_ne hij];by_cases hjk:j=k
   ·subst hjk;simp only [List.getElem_set_self];exact fun h3 h4=>h.2.2 i j h1 hj hik b h3 (hx b h4)
   ·simp only [List.getElem_set_ne hjk];exact h.2.2 i k h1 h2 hik b
theorem flatN_setP (l:List Nv) (i:Nat) (s:Nv) (h:i<l.length) (e4: .slice s.la s.n.log.length s.lc=(.slice l[i].la l[i].n.log.length l[i].lc:Value)) (e7: .slice s.va s.n.vs.length s.vc=(.slice l[i].va l[i].n.vs.length l[i].vc:Value)) (e8: .slice s.ma s.n.mt.length s.mc=(.slice l[i].ma l[i].n.mt.length l[i].mc:Value)):((((((zD_ l).set (i*9) (.int .i64 s.n.id)).set (i*9+1) (.int .i64 s.n.pe)).set (i*9+2) (.int .i64 s.n.te)).set (i*9+3) (.int .i64 s.n.vo)).set (i*9+5) (.int .i64 s.n.co)).set (i*9+6) (.int .i64 s.n.ro)=zD_ (l.set i s):=by
 induction l generalizing i with
 | nil=>simp at h
 | cons x r ih=>
  cases i with
  | zero=>
   simp only [List.getElem_cons_zero] at e4 e7 e8;simp [zD_,e4,e7,e8]
  | succ i=>
   have e:∀(m:Nat) (v q0 q1 q2 q3 q4 q5 q6 q7 q8:Value) (L:List Value),(q0::q1::q2::q3::q4::q5::q6::q7::q8::L).set ((i+1)*9+m) v=q0::q1::q2::q3::q4::q5::q6::q7::q8::L.set (i*9+m) v:=by
    intro m v q0 q1 q2 q3 q4 q5 q6 q7 q8 L;rw [show (i+1)*9+m=(i*9+m)+1+1+1+1+1+1+1+1+1 from by omega];simp only [sC_]
   have e0:=e 0;simp only [Nat.add_zero] at e0;simp only [zD_,sC_];rw [e0,e 1,e 2,e 3,e 5,e 6,ih i (by simpa using h) (by simpa using e4) (by simpa using e7) (by simpa using e8)]
theorem flatM_setP (l:List Mv) (i:Nat) (s:Mv) (h:i<l.length) (e6: .slice s.ea s.q.es.length s.ec=(.slice l[i].ea l[i].q.es.length l[i].ec:Value)):((((((((zo_ l).set (i*9) (.int .i64 s.q.ki)).set (i*9+1) (.int .i64 s.q.fr)).set (i*9+2) (.int .i64 s.q.dst)).set (i*9+3) (.int .i64 s.q.te)).set (i*9+4) (.int .i64 s.q.ix)).set (i*9+5) (.int .i64 s.q.be)).set (i*9+7) (.int .i64 s.q.co)).set (i*9+8) (.bool s.q.ye)=zo_ (l.set i s):=by
 induction l generalizing i with
 | nil=>simp at h
 | cons x r ih=>
  cases i with
  | zero=>
   simp only [List.getElem_cons_zero] at e6;simp [zo_,e6]
  | succ i=>
   have e:∀(m:Nat) (v q0 q1 q2 q3 q4 q5 q6 q7 q8:Value) (L:List Value),(q0::q1::q2::q3::q4::q5::q6::q7::q8::L).set ((i+1)*9+m) v=q0::q1::q2::q3::q4::q5::q6::q7::q8::L.set (i*9+m) v:=by
    intro m v q0 q1 q2 q3 q4 q5 q6 q7 q8 L;rw [show (i+1)*9+m=(i*9+m)+1+1+1+1+1+1+1+1+1 from by omega];simp only [sC_]
   have e0:=e 0;simp only [Nat.add_zero] at e0;simp only [zo_,sC_];rw [e0,e 1,e 2,e 3,e 4,e 5,e 7,e 8,ih i (by simpa using h) (by simpa using e6)]
set_option maxHeartbeats 16000000
theorem markNodeS_own (v:Value) (b0 lo mid:Nat) (N:List Nv) (k:Int) (w:World) (ho:w.ownsRow b0 42 9 v N.length (zD_ N)) (hch0:zp_ PN BN w lo mid N) (hn:N.length≤1048576) (hs:∀i (h:i<N.length),N[i].n.log.length≤1048576∧N[i].n.vs.length≤1048576∧N[i].n.mt.length≤1048576) (h1:1≤k) (h2:k+(sm uN N:Nat)≤40000000):
  Calls Tryz.prog 57 #[v,k] w fun e w'=>e= .returned (.int .i64 (k+(sm uN N:Nat)))∧w'.ownsRow b0 42 9 v N.length (zD_ (mkL mkNv uN k N))∧zp_ PN BN w' lo mid (mkL mkNv uN k N)∧Chg (fun b=>v.ownBlock=some b∨∃i,∃h:i<N.length,BN N[i] b) w w':=by
 rcases ho.2 with⟨rfl,h0⟩ | ⟨g,cap,cur,rfl,_⟩
 ·obtain rfl:N= []:=List.length_eq_zero_iff.1 h0;simp only [sm];go_enter Tryz.func57,Tryz.ntmps57;go_wp2
  go_loopw [1,5] (fun t i wr=>i= .int .i64 0∧t= .int .i64 k∧wr=w) (fun _ _ _=>0)
  case atStart=>exact⟨rfl,rfl,rfl⟩
  case round=>
   obtain⟨rfl,rfl,rfl⟩:=hrel;go_wp2;go_ret;exact⟨by simp,ho,hch0,Chg.refl _ _⟩
 obtain⟨S,hS⟩:∃S:Nat→Prop,S=fun b=>(Value.slice (some ⟨g,0,none⟩) N.length cap).ownBlock=some b∨∃i,∃h:i<N.length,BN N[i] b:=⟨_,rfl⟩;rw [←hS];have Sg:S g:=by rw [hS];exact .inl rfl
 have Sin:∀i (h:i<N.length) b,BN N[i] b→S b:=fun i h b hb=>by rw [hS];exact .inr ⟨i,h,hb⟩
 clear hS;go_enter Tryz.func57,Tryz.ntmps57;go_wp2
 go_loopw [1,5] (fun t i wr=>∃j:Nat,j≤N.length∧i= .int .i64 j∧t= .int .i64 (k+(sm uN (N.take j):Nat))∧wr.ownsRow b0 42 9 (.slice (some ⟨g,0,none⟩) N.length cap) N.length (zD_ (mkP mkNv uN k N j))∧zp_ PN BN wr lo mid (mkP mkNv uN k N j)∧Chg S w wr) (fun _ i _=>N.length-(intOf i).toNat)
 case atStart=>exact⟨0,Nat.zero_le _,rfl,by simp [sm],by rw [mkP_zero];exact ho,by rw [mkP_zero];exact hch0,Chg.refl _ _⟩
 case round=>
  clear ho hch0;obtain⟨j,hj,rfl,rfl,hown,hch,hC⟩:=hrel;by_cases hlt:j<N.length
  ·have hpl:=mkP_length mkNv uN k N j hj;have e0:=mkP_at mkNv uN k N j hlt;obtain⟨base,hb0,hP,hin⟩:=hch.at j (by omega);rw [e0] at hP hin;have hss:=hs j hlt;have Sj:=Sin j hlt;have hkb:=zR_ uN N j;have hkc:=zR_ uN N (j+1);have HK2:Hid (sm uN (N.take (j+1))=sm uN (N.take j)+uN N[j]):=sm_take uN N j hlt;have HG:∀i (hi:i<(mkP mkNv uN k N j).length),¬BN (mkP mkNv uN k N j)[i] g:=fun i hi hh=>by
    obtain⟨_,_,q,_⟩:=hch.at i hi;exact PN.row_ne q hown (by decide) (by decide) g hh rfl
   have n0:=PN.row_ne hP hown (by decide) (by decide);have HX:Hid (∀w' b',PN w' b' (mkNv (k+(sm uN (N.take j):Nat)) N[j])→Chg (fun b=>b=g∨BN N[j] b) wr w'→zp_ PN BN w' lo mid (mkP mkNv uN k N (j+1))):=fun w' b' hp hc=>by
    rw [←mkP_set mkNv uN k N j hlt];have hj2:j<(mkP mkNv uN k N j).length:=by omega
    refine zp_.setN (g:=g) (base:=b') hch j hj2 _ ?_ hp ?_ HG
    ·rw [e0];intro b hb;simpa [BN,mkNv,zC_,zS_] using hb
    ·rw [e0];exact hc
   have HF:Hid _:=flatN_setP (mkP mkNv uN k N j) j (mkNv (k+(sm uN (N.take j):Nat)) N[j]) (by omega) (by rw [e0];simp [mkNv,zC_]) (by rw [e0];simp [mkNv,zS_]) (by rw [e0];simp [mkNv,zS_]);rw [mkP_set mkNv uN k N j hlt] at HF;obtain⟨q0,q1,q2,q3,y4,q5,q6,y7,y8⟩:=flatN_get (mkP mkNv uN k N j) j (by omega);rw [e0] at y4 y7 y8;clear q0 q1 q2 q3 q5 q6;clear hpl e0 HG hch hs Sin;obtain⟨FL,HFL⟩:∃FL,Hid (zD_ (mkP mkNv uN k N (j+1))=FL):=⟨zD_ (mkP mkNv uN k N (j+1)),rfl⟩;rw [HFL.out] at HF;generalize zD_ (mkP mkNv uN k N j)=ys at*;obtain⟨kj,HKJ⟩:∃kj:Int,Hid (k+(sm uN (N.take j):Nat)=kj):=⟨_,rfl⟩;rw [HKJ.out] at HX HF ⊢;have hk1:1≤kj:=by have:=HKJ.out;omega
   have hk2:kj≤40000000:=by have:=HKJ.out;omega
   have HK3:Hid (k+(sm uN (N.take (j+1)):Nat)=kj+(uN N[j]:Nat)):=by have:=HKJ.out;have:=HK2.out;show _=_;omega
   clear HK2 HKJ hkb hkc;generalize N[j]=s at*;obtain⟨⟨id,pe,te,vo,co,ro,log,vs,mt⟩,la,lc,va,vc,ma,mc⟩:=s;obtain⟨z1,z2,z3⟩:=hss;dsimp only [mkNv] at HX HF y4 y7 y8 z1 z2 z3;dsimp only [PN,BN] at hP hin n0 HX Sj;have HU:Hid ((uN ⟨⟨id,pe,te,vo,co,ro,log,vs,mt⟩,la,lc,va,vc,ma,mc⟩:Int)=6+2*(log.length:Int)+(vs.length:Int)+(mt.length:Int)):=by show _=_;simp [uN]
   have hgl:=(zU_ hown).2;have m1:=zi_ hP.l hP.v (by decide);have m2:=zi_ hP.l hP.m (by decide);have m3:=hP.ne;have i1:∀b,(.slice la log.length lc:Value).ownBlock=some b→lo≤b∧b<mid∧¬b=g:=fun b h=>⟨(hin b (.inl h)).1,(hin b (.inl h)).2,fun e=>n0 b (.inl h) (by rw [e];rfl)⟩;have i2:∀b,(.slice va vs.length vc:Value).ownBlock=some b→lo≤b∧b<mid∧¬b=g:=fun b h=>⟨(hin b (.inr (.inl h))).1,(hin b (.inr (.inl h))).2,fun e=>n0 b (.inr (.inl h)) (by rw [e];rfl)⟩;have i3:∀b,(.slice ma mt.length mc:Value).ownBlock=some b→lo≤b∧b<mid∧¬b=g:=fun b h=>⟨(hin b (.inr (.inr h))).1,(hin b (.inr (.inr h))).2,fun e=>n0 b (.inr (.inr h)) (by rw [e];rfl)⟩;have K1:=fun W h=>markEntryS_own (.slice la log.length lc) base log (kj+1+1+1+1) W h z1 (by omega) (by omega);have K2:=fun W h=>markIntS_own (.slice va vs.length vc) base vs.length (vs.map (.int .i64)) (kj+1+1+1+1+2*(log.length:Int)+1+1) W h (by simp) z2 (by omega) (by omega);have K3:=fun W h=>markIntS_own (.slice ma mt.length mc) base mt.length (mt.map (.int .i64)) (kj+1+1+1+1+2*(log.length:Int)+1+1+(vs.length:Int)) W h (by simp) z3 (by omega) (by omega);obtain⟨ol,ov,om,_⟩:=hP;have CT:Chg (fun b=>b=g∨NB (.slice la log.length lc) (.slice va vs.length vc) (.slice ma mt.length mc) b) wr wr:=Chg.refl _ _;clear n0 hin;obtain⟨⟨u0,d0⟩,f0⟩:=ye_ hown j hlt 0 (by omega);obtain⟨⟨u1,d1⟩,f1⟩:=ye_ hown j hlt 1 (by omega);obtain⟨⟨u2,d2⟩,f2⟩:=ye_ hown j hlt 2 (by omega);obtain⟨⟨u3,d3⟩,f3⟩:=ye_ hown j hlt 3 (by omega);rw [Nat.add_zero] at d0 f0;have o4:=((((hown.stored (j*9) (.int .i64 (kj))).1.stored (j*9+1) (.int .i64 (kj+1))).1.stored (j*9+2) (.int .i64 (kj+1+1))).1.stored (j*9+3) (.int .i64 (kj+1+1+1))).1;obtain⟨W4,hW4⟩:∃W,W=((((wr).setCell ⟨g,j*9,none⟩ (.int .i64 (kj))).setCell ⟨g,j*9+1,none⟩ (.int .i64 (kj+1))).setCell ⟨g,j*9+2,none⟩ (.int .i64 (kj+1+1))).setCell ⟨g,j*9+3,none⟩ (.int .i64 (kj+1+1+1)):=⟨_,rfl⟩;rw [←hW4] at o4;have hc4:Chg (fun b=>b=g) wr W4:=by
    rw [hW4]
    iterate 4 (refine Chg.setCell (S:=fun b=>b=g) ?_ rfl _)
    exact Chg.refl _ _
   replace ol:=hc4.owns ol (fun b hb e=>(i1 b hb).2.2 e);replace ov:=hc4.owns ov (fun b hb e=>(i2 b hb).2.2 e);replace om:=hc4.owns om (fun b hb e=>(i3 b hb).2.2 e);replace hC:=hC.trans (hc4.mono fun b e=>by rw [e];exact Sg);replace CT:=CT.trans (hc4.mono fun b e=> .inl e);have e4:W4.cell? ⟨g,j*9+4,none⟩=some (.slice la log.length lc):=by
    rw [o4.cellAt (j*9+4) (by omega)];rw [List.getElem?_set_ne (by omega),List.getElem?_set_ne (by omega),List.getElem?_set_ne (by omega),List.getElem?_set_ne (by omega)];exact y4
   clear hown hc4 y4;go_upto_region 12 with fail;rw [←hW4];clear hW4 d0 d1 d2 d3 f0 f1 f2 f3;go_wp2_with fail;refine (K1 _ ol).mono ?_;rintro e w5 ⟨rfl,o1,hc⟩;replace o4:=hc.owns o4 (fun b hb hh=>(i1 b hh).2.2 (by simpa [Value.ownBlock] using hb.symm));replace ov:=hc.owns ov (fun b hb hh=>m1 b hh hb);replace om:=hc.owns om (fun b hb hh=>m2 b hh hb);replace hC:=hC.trans (hc.mono fun b e=>Sj b (.inl e));replace CT:=CT.trans (hc.mono fun b e=> .inr (.inl e));clear K1 hc ol e4;obtain⟨⟨u5,d5⟩,f5⟩:=ye_ o4 j hlt 5 (by omega);obtain⟨⟨u6,d6⟩,f6⟩:=ye_ o4 j hlt 6 (by omega);have o6:=((o4.stored (j*9+5) (.int .i64 (kj+1+1+1+1+2*(log.length:Int)))).1.stored (j*9+6) (.int .i64 (kj+1+1+1+1+2*(log.length:Int)+1))).1;obtain⟨W6,hW6⟩:∃W,W=((w5).setCell ⟨g,j*9+5,none⟩ (.int .i64 (kj+1+1+1+1+2*(log.length:Int)))).setCell ⟨g,j*9+6,none⟩ (.int .i64 (kj+1+1+1+1+2*(log.length:Int)+1)):=⟨_,rfl⟩;rw [←hW6] at o6;have hc6:Chg (fun b=>b=g) w5 W6:=by
    rw [hW6]
    iterate 2 (refine Chg.setCell (S:=fun b=>b=g) ?_ rfl _)
    exact Chg.refl _ _
   replace o1:=hc6.owns o1 (fun b hb e=>(i1 b hb).2.2 e);replace ov:=hc6.owns ov (fun b hb e=>(i2 b hb).2.2 e);replace om:=hc6.owns om (fun b hb e=>(i3 b hb).2.2 e);replace hC:=hC.trans (hc6.mono fun b e=>by rw [e];exact Sg);replace CT:=CT.trans (hc6.mono fun b e=> .inl e);have e7:W6.cell? ⟨g,j*9+7,none⟩=some (.slice va vs.length vc):=by
    rw [o6.cellAt (j*9+7) (by omega)];rw [List.getElem?_set_ne (by omega),List.getElem?_set_ne (by omega),List.getElem?_set_ne (by omega),List.getElem?_set_ne (by omega),List.getElem?_set_ne (by omega),List.getElem?_set_ne (by omega)];exact y7
   clear o4 hc6;go_upto_region 17 with fail;rw [←hW6];clear hW6 d5 d6 f5 f6;go_wp2_with fail;refine (K2 _ ov).mono ?_;rintro e w7 ⟨rfl,o2,hc⟩;replace o6:=hc.owns o6 (fun b hb hh=>(i2 b hh).2.2 (by simpa [Value.ownBlock] using hb.symm));replace o1:=hc.owns o1 (fun b hb hh=>m1 b hb hh);replace om:=hc.owns om (fun b hb hh=>m3 b hh hb);replace hC:=hC.trans (hc.mono fun b e=>Sj b (.inr (.inl e)));replace CT:=CT.trans (hc.mono fun b e=> .inr (.inr (.inl e)));clear K2 hc ov e7 y7;have e8:w7.cell? ⟨g,j*9+8,none⟩=some (.slice ma mt.length mc):=by
    rw [o6.cellAt (j*9+8) (by omega)];rw [List.getElem?_set_ne (by omega),List.getElem?_set_ne (by omega),List.getElem?_set_ne (by omega),List.getElem?_set_ne (by omega),List.getElem?_set_ne (by omega),List.getElem?_set_ne (by omega)];exact y8
   go_wp2_with fail;refine (K3 _ om).mono ?_;rintro e w8 ⟨rfl,o3,hc⟩;replace o6:=hc.owns o6 (fun b hb hh=>(i3 b hh).2.2 (by simpa [Value.ownBlock] using hb.symm));replace o1:=hc.owns o1 (fun b hb hh=>m2 b hb hh);replace o2:=hc.owns o2 (fun b hb hh=>m3 b hb hh);replace hC:=hC.trans (hc.mono fun b e=>Sj b (.inr (.inr e)));replace CT:=CT.trans (hc.mono fun b e=> .inr (.inr (.inr e)));clear K3 hc om e8 y8;rw [mkI_mkZ] at o2 o3;rw [HF.out] at o6;have HO:Hid _:=o6;have HCH:=HX.out w8 base ⟨by simp only [zC_];exact o1,by simp only [zS_];exact o2,by simp only [zS_];exact o3,by simp only [zS_];exact m3⟩ CT;have HR:Hid (kj+1+1+1+1+2*(log.length:Int)+1+1+(vs.length:Int)+(mt.length:Int)=k+(sm uN (N.take (j+1)):Nat)):=by have:=HK3.out;have:=HU.out;show _=_;omega
   clear o1 o2 o3 o6 CT HX HF i1 i2 i3 m1 m2 m3 HK3 HU Sj;rw [←HFL.out] at HO;clear HFL;go_wp2;go_roundw
   case rel=>exact⟨j+1,by omega,by go_num,by rw [←HR.out],HO.out,HCH,hC⟩
   case measure=>simp [intOf];omega
  ·obtain rfl:j=N.length:=by omega
   rw [mkP_all] at hown hch;rw [List.take_length];clear hs;go_wp2;go_ret;exact⟨rfl,hown,hch,hC⟩
end Go.Proofs.YtapfhhmimkkhnaaGreat
