/-
  slices.Index, slices.Contains, l10Has; goodEntries, l11Entries.
  A node is good: the program's side (hasGoodVotes, hasGoodMatch, hasGoodRole, GoodNode).
-/
import Derived.Test.YtapfhhmimkkhnaaRF5ToP1
namespace Go.Proofs.Ytapfhhmimkkhnaa
open Go.RowKit
set_option linter.unusedVariables false
set_option maxRecDepth 100000
set_option maxHeartbeats 2000000
theorem index_any (v:Value) (zs:List Int) (x:Int) (w:World) (hv:IL w v zs) (hn:zs.length≤1048576):
  Calls Try.prog 170 #[v,x] w fun e w'=>∃r:Int,e= .returned (.int .i64 r)∧decide (0≤r)=hsI zs x∧w'=w:=by
 obtain⟨a,cap,rfl,hc⟩:=hv;go_enter Try.func170,Try.ntmps170;go_wp2
 go_loopw [8] (fun i wr=>∃k:Nat,k≤zs.length∧i= .int .i64 k∧hsI zs x=hsI (zs.drop k) x∧wr=w) (fun i _=>zs.length-(intOf i).toNat)
 case atStart=>exact⟨0,Nat.zero_le _,rfl,rfl,rfl⟩
 case round=>
  obtain⟨k,hk,rfl,hg,rfl⟩:=hrel;by_cases hlt:k<zs.length
  ·obtain⟨b,off,rfl,hbl,hcell⟩:=hc (by intro e;simp [e] at hlt);have hc0:=hcell k hlt;have HD:Hid (hsI zs x=(zs[k]==x || hsI (zs.drop (k+1)) x)):=by show _=_;rw [hg,hsI_drop zs x k hlt]
   clear hcell hc hg;generalize zs[k]=s at*;by_cases hx:x=s
   ·go_wp2;go_ret;exact⟨_,rfl,by rw [HD.out,hx];simp,rfl⟩
   ·have hx':¬s=x:=fun h=>hx h.symm;go_wp2;go_roundw
    case rel=>exact⟨k+1,by omega,by go_num,by rw [HD.out,beq_false_of_ne hx'];rfl,by first | rfl | trivial⟩
    case measure=>simp [intOf];omega
  ·obtain rfl:k=zs.length:=by omega
   have HD:Hid (hsI zs x=false):=by show _=_;rw [hg,List.drop_length];rfl
   clear hc hg;go_wp2;go_ret;exact⟨_,rfl,by rw [HD.out];rfl,rfl⟩
theorem contains_any (v:Value) (zs:List Int) (x:Int) (w:World) (hv:IL w v zs) (hn:zs.length≤1048576):
  Calls Try.prog 158 #[v,x] w fun e w'=>e= .returned (.bool (hsI zs x))∧w'=w:=by
 have K:=index_any v zs x w hv hn;generalize hsI zs x=R at*;obtain⟨a,cap,rfl,hc⟩:=hv;go_enter Try.func158,Try.ntmps158;go_wp2_with fail;refine K.mono ?_;rintro e w1 ⟨r,rfl,hr,rfl⟩;clear K hc;by_cases h:0≤r
 ·have HR:Hid (R=true):=by show _=_;rw [←hr];simp [h]
  clear hr;go_wp2;go_ret;exact⟨by rw [HR.out];simp <;>omega,rfl⟩
 ·have HR:Hid (R=false):=by show _=_;rw [←hr];simp;omega
  clear hr;go_wp2;go_ret;exact⟨by rw [HR.out];simp <;>omega,rfl⟩
theorem l10Has_any (v:Value) (zs:List Int) (x:Int) (w:World) (hv:IL w v zs) (hn:zs.length≤1048576):
  Calls Try.prog 116 #[v,x] w fun e w'=>e= .returned (.bool (hsI zs x))∧w'=w:=by
 obtain⟨a,cap,rfl,hc⟩:=hv;go_enter Try.func116,Try.ntmps116;go_wp2
 go_loopw [9] (fun i wr=>∃k:Nat,k≤zs.length∧i= .int .i64 k∧hsI zs x=hsI (zs.drop k) x∧wr=w) (fun i _=>zs.length-(intOf i).toNat)
 case atStart=>exact⟨0,Nat.zero_le _,rfl,rfl,rfl⟩
 case round=>
  obtain⟨k,hk,rfl,hg,rfl⟩:=hrel;by_cases hlt:k<zs.length
  ·obtain⟨b,off,rfl,hbl,hcell⟩:=hc (by intro e;simp [e] at hlt);have hc0:=hcell k hlt;have HD:Hid (hsI zs x=(zs[k]==x || hsI (zs.drop (k+1)) x)):=by show _=_;rw [hg,hsI_drop zs x k hlt]
   clear hcell hc hg;generalize zs[k]=s at*;by_cases hx:s=x
   ·go_wp2;go_ret;exact⟨by rw [HD.out,hx];simp,rfl⟩
   ·go_wp2;go_roundw
    case rel=>exact⟨k+1,by omega,by go_num,by rw [HD.out,beq_false_of_ne hx];rfl,by first | rfl | trivial⟩
    case measure=>simp [intOf];omega
  ·obtain rfl:k=zs.length:=by omega
   have HD:Hid (hsI zs x=false):=by show _=_;rw [hg,List.drop_length];rfl
   clear hc hg;go_wp2;go_ret;exact⟨by rw [HD.out];try rfl,by first | rfl | trivial⟩
theorem Box.b2 {w:World} {b:Nat} {v0 v1:Value} (h:Box w b [v0,v1]):b<w.heap.size∧w.cell? ⟨b,0,none⟩=some v0∧w.cell? ⟨b,1,none⟩=some v1:=⟨h.1,h.2.1 0 _ rfl,h.2.1 1 _ rfl⟩
theorem goodEntries_any (v:Value) (l:List En) (T:Int) (w:World) (hv:ER w v l) (hn:l.length≤1048576) (hs:∀i (h:i<l.length),l[i].d.size≤1048576):
  Calls Try.prog 110 #[v,T] w fun e w'=>e= .returned (.bool (gE T 0 l))∧Below w.heap.size w w':=by
 obtain⟨a,cap,rfl,hc⟩:=hv;go_enter Try.func110,Try.ntmps110;go_wp2
 go_loopw [5,10] (fun p i wr=>∃(k:Nat) (z:Int),k≤l.length∧i= .int .i64 k∧p= .int .i64 z∧gE T 0 l=gE T z (l.drop k)∧Below w.heap.size w wr) (fun _ i _=>l.length-(intOf i).toNat)
 case atStart=>exact⟨0,0,Nat.zero_le _,rfl,rfl,rfl,Below.refl _ _⟩
 case round=>
  obtain⟨k,z,hk,rfl,rfl,hg,hb⟩:=hrel;by_cases hlt:k<l.length
  ·obtain⟨b,off,rfl,hbl,hcell⟩:=hc (by intro e;simp [e] at hlt);have hc0:=(hb.cell (p:=⟨b,off+k*2,none⟩) hbl).trans (hcell k hlt).1;have hc1:=(hb.cell (p:=⟨b,off+k*2+1,none⟩) hbl).trans (hcell k hlt).2;have HD:Hid (gE T 0 l=(yf_ l[k]&&decide (z≤l[k].t)&&decide (l[k].t≤T)&&gE T l[k].t (l.drop (k+1)))):=by show _=_;rw [hg,gE_drop T z l k hlt]
   have hsk:=hs k hlt;clear hcell hc hg hs;generalize l[k]=s at*;obtain⟨st,sd⟩:=s;dsimp only at hc0 hc1 HD hsk;have KE:=fun w=>goodEntry_any st sd w hsk;have hz:=hb.size;have hB0:=hb.alloc hz (.cells #[st,sd] 34);have X0:=Box.new wr #[st,sd] 34;generalize yf_ ⟨st,sd⟩=ge at*;go_wp2_with fail;refine (KE _).mono ?_;rintro e w1 ⟨rfl,hb1⟩;have hB1:=hB0.trans (hb1.mono hB0.size);have X1:=X0.below hb1;obtain⟨hx0,x0,x1⟩:=X1.b2;clear KE hB0 X0 hb1 hb
   cases ge with
   | false=>
    go_wp2;go_ret;exact⟨by rw [HD.out];rfl,hB1⟩
   | true=>
    by_cases h1:st<z
    ·go_wp2;go_ret;exact⟨by rw [HD.out];simp <;>omega,hB1⟩
    ·by_cases h2:T<st
     ·go_wp2;go_ret;exact⟨by rw [HD.out];simp <;>omega,hB1⟩
     ·have HD2:Hid (gE T 0 l=gE T st (l.drop (k+1))):=by
       show _=_;rw [HD.out,decide_eq_true (show z≤st from by omega),decide_eq_true (show st≤T from by omega)];rfl
      clear HD;go_wp2;go_roundw
      case rel=>exact⟨k+1,st,by omega,by go_num,rfl,HD2.out,hB1⟩
      case measure=>simp [intOf];omega
  ·obtain rfl:k=l.length:=by omega
   have HD:Hid (gE T 0 l=true):=by show _=_;rw [hg,List.drop_length];rfl
   clear hc hg;go_wp2;go_ret;exact⟨by rw [HD.out];try rfl,hb⟩
theorem l11Entries_any (v:Value) (l:List En) (T:Int) (w:World) (hv:ER w v l) (hn:l.length≤1048576) (hs:∀i (h:i<l.length),l[i].d.size≤1048576):
  Calls Try.prog 115 #[v,(1:Int),T] w fun e w'=>e= .returned (.bool (gE T 0 l&&decide ((l.length:Int)≤60)))∧Below w.heap.size w w':=by
 rw [←gE_one];obtain⟨a,cap,rfl,hc⟩:=hv;go_enter Try.func115,Try.ntmps115;go_wp2
 go_loopw [1,11] (fun p i wr=>∃(k:Nat) (z:Int),k≤l.length∧i= .int .i64 k∧p= .int .i64 z∧gE T 1 l=gE T z (l.drop k)∧Below w.heap.size w wr) (fun _ i _=>l.length-(intOf i).toNat)
 case atStart=>exact⟨0,1,Nat.zero_le _,rfl,rfl,rfl,Below.refl _ _⟩
 case round=>
  obtain⟨k,z,hk,rfl,rfl,hg,hb⟩:=hrel;by_cases hlt:k<l.length
  ·obtain⟨b,off,rfl,hbl,hcell⟩:=hc (by intro e;simp [e] at hlt);have hc0:=(hb.cell (p:=⟨b,off+k*2,none⟩) hbl).trans (hcell k hlt).1;have hc1:=(hb.cell (p:=⟨b,off+k*2+1,none⟩) hbl).trans (hcell k hlt).2;have HD:Hid (gE T 1 l=(yf_ l[k]&&inB l[k].t z T&&gE T l[k].t (l.drop (k+1)))):=by show _=_;rw [hg,gE_drop T z l k hlt];unfold inB;simp only [Bool.and_assoc]
   have hsk:=hs k hlt;clear hcell hc hg hs;generalize l[k]=s at*;obtain⟨st,sd⟩:=s;dsimp only at hc0 hc1 HD hsk;have KE:=fun w=>l3Entry_any st sd w hsk;have KI:=fun w=>zs_ st z T w;have hz:=hb.size;have hB0:=hb.alloc hz (.cells #[st,sd] 34);have X0:=Box.new wr #[st,sd] 34;generalize yf_ ⟨st,sd⟩=ge at*;generalize inB st z T=gi at*;go_wp2_with fail;refine (KE _).mono ?_;rintro e w1 ⟨rfl,hb1⟩;have hB1:=hB0.trans (hb1.mono hB0.size);have X1:=X0.below hb1;obtain⟨hx0,x0,x1⟩:=X1.b2;clear KE hB0 X0 hb1 hb
   cases ge with
   | false=>
    go_wp2;go_ret;exact⟨by rw [HD.out];rfl,hB1⟩
   | true=>
    go_wp2_with fail;refine (KI _).mono ?_;rintro e w2 ⟨rfl,rfl⟩;clear KI
    cases gi with
    | false=>
     go_wp2;go_ret;exact⟨by rw [HD.out];rfl,hB1⟩
    | true=>
     go_wp2;go_roundw
     case rel=>exact⟨k+1,st,by omega,by go_num,rfl,HD.out,hB1⟩
     case measure=>simp [intOf];omega
  ·obtain rfl:k=l.length:=by omega
   have HD:Hid (gE T 1 l=true):=by show _=_;rw [hg,List.drop_length];rfl
   clear hc hg;go_wp2;go_ret;exact⟨by rw [HD.out];simp,hb⟩
set_option maxHeartbeats 4000000
theorem Box.e9 {w:World} {b:Nat} {v0 v1 v2 v3 v4 v5 v6 v7 v8:Value} (h:Box w b [v0,v1,v2,v3,v4,v5,v6,v7,v8]):b<w.heap.size∧w.cell? ⟨b,0,none⟩=some v0∧w.cell? ⟨b,1,none⟩=some v1∧w.cell? ⟨b,2,none⟩=some v2∧w.cell? ⟨b,3,none⟩=some v3∧w.cell? ⟨b,4,none⟩=some v4∧w.cell? ⟨b,5,none⟩=some v5∧w.cell? ⟨b,6,none⟩=some v6∧w.cell? ⟨b,7,none⟩=some v7∧w.cell? ⟨b,8,none⟩=some v8:=
 ⟨h.1,h.2.1 0 _ rfl,h.2.1 1 _ rfl,h.2.1 2 _ rfl,h.2.1 3 _ rfl,h.2.1 4 _ rfl,h.2.1 5 _ rfl,h.2.1 6 _ rfl,h.2.1 7 _ rfl,h.2.1 8 _ rfl⟩
theorem vAt_eq (pe:Int) (l:List Int) (k:Nat) (h:k<l.length):vAt pe l k=(isP l[k] pe&&(k==0 || decide (l.getD (k-1) 0<l[k]))):=by unfold vAt;rw [ya_ l k h]
theorem hasGoodVotes_any (id pe te vo co ro:Int) (vl vv vm:Value) (log:List En) (vs mt:List Int) (w:World) (hl:ER w vl log) (hv:IL w vv vs) (hm:IL w vm mt) (nl:log.length≤1048576) (nv:vs.length≤1048576) (nm:mt.length≤1048576) (ns:∀i (h:i<log.length),log[i].d.size≤1048576):
  Calls Try.prog 135 #[.agg #[id,pe,te,vo,vl,co,ro,vv,vm]] w fun e w'=>e= .returned (.bool (goodVs pe id vs))∧Below w.heap.size w w':=by
 have hv0:=hv;obtain⟨la,lc,rfl,hlc⟩:=hl;obtain⟨va,vc,rfl,hvc⟩:=hv;obtain⟨ma,mc,rfl,hmc⟩:=hm;have hB:=zc_ w (.cells #[id,pe,te,vo,.slice la log.length lc,co,ro,.slice va vs.length vc,.slice ma mt.length mc] 26);have X:=Box.new w #[id,pe,te,vo,.slice la log.length lc,co,ro,.slice va vs.length vc,.slice ma mt.length mc] 26;obtain⟨W0,hW0⟩:∃W0,W0=w.alloc (.cells #[id,pe,te,vo,.slice la log.length lc,co,ro,.slice va vs.length vc,.slice ma mt.length mc] 26):=⟨_,rfl⟩;rw [←hW0] at hB X;obtain⟨hxl,x0,x1,x2,x3,x4,x5,x6,x7,x8⟩:=X.e9;have HO:Hid (goodVs pe id vs=(gV pe vs&&(hsI vs id&& !decide (pe<2*(vs.length:Int))))):=rfl;clear hlc hmc ns;go_enter Try.func135,Try.ntmps135;go_wp2;rw [←hW0];clear hW0
 go_loopw [8] (fun i wr=>∃k:Nat,k≤vs.length∧i= .int .i64 k∧vTo pe vs k=true∧wr=W0) (fun i _=>vs.length-(intOf i).toNat)
 case atStart=>exact⟨0,Nat.zero_le _,rfl,rfl,rfl⟩
 case round=>
  obtain⟨k,hk,rfl,hg,rfl⟩:=hrel;by_cases hlt:k<vs.length
  ·obtain⟨b,off,rfl,hbl,hcell⟩:=hvc (by intro e;simp [e] at hlt);have hc0:=(hB.cell (p:=⟨b,off+k,none⟩) hbl).trans (hcell k hlt);have KI:=fun w=>isPeer_any vs[k] pe w;have HAT:Hid (vAt pe vs k=(isP vs[k] pe&&(k==0 || decide (vs.getD (k-1) 0<vs[k])))):=vAt_eq pe vs k hlt;have HF:Hid (vAt pe vs k=false→gV pe vs=false):=fun h=>vTo_false pe vs k _ hlt h;have HN:Hid (vAt pe vs k=true→vTo pe vs (k+1)=true):=fun h=>by simp only [vTo,hg,h];rfl
   have hbW:b<wr.heap.size:=by have:=hB.size;omega
   cases hK:isP vs[k] pe with
   | false=>
    have HR:Hid (gV pe vs=false):=HF.out (by rw [HAT.out,hK];rfl);rw [hK] at KI;clear hcell hvc HAT hg hK HF HN hv0;generalize vs[k]=s at*;go_wp2_with fail;refine (KI _).mono ?_;rintro e w1 ⟨rfl,rfl⟩;go_wp2;go_ret;exact⟨by rw [HO.out,HR.out];rfl,hB⟩
   | true=>
    rw [hK] at KI;by_cases k0:k=0
    ·subst k0;have HG:Hid (vTo pe vs (0+1)=true):=HN.out (by rw [HAT.out,hK];rfl);rw [Nat.add_zero] at hc0;clear hcell hvc HAT hg hK HF HN hv0;generalize vs[0]=s at*;go_wp2_with fail;refine (KI _).mono ?_;rintro e w1 ⟨rfl,rfl⟩;go_wp2;go_roundw
     case rel=>exact⟨1,by omega,by go_num,HG.out,by first | rfl | trivial⟩
     case measure=>simp [intOf];omega
    ·obtain⟨j,rfl⟩:∃j,k=j+1:=⟨k-1,by omega⟩;have hj:j<vs.length:=by omega
     have hd0:=(hB.cell (p:=⟨b,off+j,none⟩) hbl).trans (hcell j hj);have hdd:vs.getD (j+1-1) 0=vs[j]:=ya_ vs j hj;have HAT2:Hid (vAt pe vs (j+1)=decide (vs[j]<vs[j+1])):=by show _=_;rw [HAT.out,hK,hdd];simp
     have hpos:(0:Int)<((j+1:Nat):Int):=by omega
     have hj1:(((j+1:Nat):Int)-1)=(j:Int):=by omega
     by_cases hle:vs[j+1]≤vs[j]
     ·have HR:Hid (gV pe vs=false):=HF.out (by rw [HAT2.out];simp;omega);clear hcell hvc HAT hg hK HF HN hv0 HAT2 hdd;generalize vs[j+1]=s at*;generalize vs[j]=q at*;go_wp2_with fail;refine (KI _).mono ?_;rintro e w1 ⟨rfl,rfl⟩;go_wp2;go_ret;exact⟨by rw [HO.out,HR.out];rfl,hB⟩
     ·have HG:Hid (vTo pe vs (j+1+1)=true):=HN.out (by rw [HAT2.out];simp;omega);clear hcell hvc HAT hg hK HF HN hv0 HAT2 hdd;generalize vs[j+1]=s at*;generalize vs[j]=q at*;go_wp2_with fail;refine (KI _).mono ?_;rintro e w1 ⟨rfl,rfl⟩;go_wp2;go_roundw
      case rel=>exact⟨j+1+1,by omega,by go_num,HG.out,by first | rfl | trivial⟩
      case measure=>simp [intOf];omega
  ·obtain rfl:k=vs.length:=by omega
   have HR:Hid (gV pe vs=true):=hg;have KC:=contains_any _ vs id wr (hv0.below hB) nv;have KM:=fun w=>areMost_any id pe te vo co ro (vs.length:Int) (.slice la log.length lc) (.slice va vs.length vc) (.slice ma mt.length mc) w (by omega) (by omega);clear hvc hg hv0;generalize hsI vs id=b1 at*;generalize decide (pe<2*(vs.length:Int))=b2 at*;go_wp2_with fail;refine KC.mono ?_;rintro e w1 ⟨rfl,rfl⟩;clear KC
   cases b1 with
   | false=>
    go_wp2;go_ret;exact⟨by rw [HO.out,HR.out];rfl,hB⟩
   | true=>
    go_wp2_with fail;refine (KM _).mono ?_;rintro e w1 ⟨rfl,hb1⟩;clear KM;go_wp2;go_ret;exact⟨by rw [HO.out,HR.out];rfl,za_ hB hb1⟩
theorem hasGoodMatch_any (id pe te vo co ro:Int) (vl vv vm:Value) (log:List En) (vs mt:List Int) (w:World) (hl:ER w vl log) (hv:IL w vv vs) (hm:IL w vm mt) (nl:log.length≤1048576) (nv:vs.length≤1048576) (nm:mt.length≤1048576) (ns:∀i (h:i<log.length),log[i].d.size≤1048576) (hi0:0≤id) (hi1:id<pe):
  Calls Try.prog 136 #[.agg #[id,pe,te,vo,vl,co,ro,vv,vm]] w fun e w'=>e= .returned (.bool (goodMt pe id log.length mt))∧Below w.heap.size w w':=by
 obtain⟨la,lc,rfl,hlc⟩:=hl;obtain⟨va,vc,rfl,hvc⟩:=hv;obtain⟨ma,mc,rfl,hmc⟩:=hm;have hB:=zc_ w (.cells #[id,pe,te,vo,.slice la log.length lc,co,ro,.slice va vs.length vc,.slice ma mt.length mc] 26);have X:=Box.new w #[id,pe,te,vo,.slice la log.length lc,co,ro,.slice va vs.length vc,.slice ma mt.length mc] 26;obtain⟨W0,hW0⟩:∃W0,W0=w.alloc (.cells #[id,pe,te,vo,.slice la log.length lc,co,ro,.slice va vs.length vc,.slice ma mt.length mc] 26):=⟨_,rfl⟩;rw [←hW0] at hB X;obtain⟨hxl,x0,x1,x2,x3,x4,x5,x6,x7,x8⟩:=X.e9;have HO:Hid (goodMt pe id log.length mt=(decide ((mt.length:Int)=pe)&&(gM log.length mt&&decide (mt.getD id.toNat 0=(log.length:Int))))):=rfl;clear hlc hvc ns;by_cases hp:(mt.length:Int)=pe
 ·obtain⟨i,rfl⟩:=Int.eq_ofNat_of_zero_le hi0;have hil:i<mt.length:=by omega
  have HE:Hid (goodMt pe (i:Int) log.length mt=(gM log.length mt&&decide (mt[i]=(log.length:Int)))):=by
   show _=_;rw [HO.out,decide_eq_true hp,Int.toNat_natCast,ya_ mt i hil];rfl
  clear HO;have HP:Hid ((mt.length:Int)=pe):=hp;subst hp;go_enter Try.func136,Try.ntmps136;go_wp2;rw [←hW0];clear hW0
  go_loopw [14] (fun z wr=>∃k:Nat,k≤mt.length∧z= .int .i64 k∧gM log.length mt=gM log.length (mt.drop k)∧wr=W0) (fun z _=>mt.length-(intOf z).toNat)
  case atStart=>exact⟨0,Nat.zero_le _,rfl,rfl,rfl⟩
  case round=>
   obtain⟨k,hk,rfl,hg,rfl⟩:=hrel;obtain⟨b,off,rfl,hbl,hcell⟩:=hmc (by intro e;simp [e] at hil);by_cases hlt:k<mt.length
   ·have hc0:=(hB.cell (p:=⟨b,off+k,none⟩) hbl).trans (hcell k hlt);have HD:Hid (gM log.length mt=((decide (0≤mt[k])&&decide (mt[k]≤(log.length:Int)))&&gM log.length (mt.drop (k+1)))):=by show _=_;rw [hg,gM_drop _ mt k hlt]
    clear hcell hmc hg;generalize mt[k]=s at*;by_cases h1:s<0
    ·have HR:Hid (gM log.length mt=false):=by show _=_;rw [HD.out,decide_eq_false (by omega)];rfl
     clear HD;go_wp2;go_ret;exact⟨by rw [HE.out,HR.out];rfl,hB⟩
    ·by_cases h2:(log.length:Int)<s
     ·have HR:Hid (gM log.length mt=false):=by show _=_;rw [HD.out,decide_eq_false (show ¬s≤(log.length:Int) from by omega),Bool.and_false];rfl
      clear HD;go_wp2;go_ret;exact⟨by rw [HE.out,HR.out];rfl,hB⟩
     ·have HR:Hid (gM log.length mt=gM log.length (mt.drop (k+1))):=by show _=_;rw [HD.out,decide_eq_true (show 0≤s from by omega),decide_eq_true (show s≤(log.length:Int) from by omega)];rfl
      clear HD;go_wp2;go_roundw
      case rel=>exact⟨k+1,by omega,by go_num,HR.out,by first | rfl | trivial⟩
      case measure=>simp [intOf];omega
   ·obtain rfl:k=mt.length:=by omega
    have hd0:=(hB.cell (p:=⟨b,off+i,none⟩) hbl).trans (hcell i hil);have HR:Hid (gM log.length mt=true):=by show _=_;rw [hg,List.drop_length];rfl
    clear hcell hmc hg;generalize mt[i]=s at*;by_cases hse:s=(log.length:Int)
    ·subst hse;go_wp2_with fail
     go_quiet (fail)
     go_wp2;go_ret;exact⟨by rw [HE.out,HR.out];simp,below_drewN hB _⟩
    ·go_wp2_with fail
     go_quiet (fail)
     go_wp2;go_ret;exact⟨by rw [HE.out,HR.out];simp [hse],below_drewN hB _⟩
 ·have HE:Hid (goodMt pe id log.length mt=false):=by
   show _=_;rw [HO.out,decide_eq_false hp];rfl
  clear HO;go_enter Try.func136,Try.ntmps136;go_wp2;rw [←hW0];go_ret;exact⟨by rw [HE.out];try rfl,hB⟩
end Go.Proofs.Ytapfhhmimkkhnaa
