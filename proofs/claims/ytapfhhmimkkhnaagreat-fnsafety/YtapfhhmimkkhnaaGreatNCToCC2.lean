/-
  What nodes do, in one form: TimeoutNode, ProposeNode, CrashNode, AppendFor, HandleMsg.
  A good cluster: the specification's side.
  What the laws of clusters lean on.
  A cluster copied: impl's copyMessage, copyCluster.
-/
import Derived.Test.YtapfhhmimkkhnaaGreatWNToHN
import Derived.Test.YtapfhhmimkkhnaaGreatF6
namespace Go.Proofs.YtapfhhmimkkhnaaGreat
open Go.RowKit Go.Maps
set_option linter.unusedVariables false
set_option maxRecDepth 100000
def qv_ (w w':World) (ok:Bool) (z:Nd) (A:List Ms) (e:Ending):Prop:=
 (ok=true∧∃(x:Nv) (AB:List Mv) (qa:Option Addr) (qc:Nat),e= .returned (.tuple #[.agg x,.slice qa AB.length qc,true])∧x.n=z∧PN w' w.heap.size x∧AB.map Mv.q=A∧(∀a∈AB,a.ea=none∧a.ec=0∧a.q.es= [])∧AB.length≤100∧w'.ownsRow w.heap.size 80 9 (.slice qa AB.length qc) AB.length (zo_ AB))∨
 (ok=false∧∃(x:Nv),e= .returned (.tuple #[.agg x,(),false]))
theorem ve_ {w w':World} {z:Nd} {A:List Ms} {uq:Value} (x:Nv) (hz:x.n=z) (hp:PN w' w.heap.size x) (hA:∀a∈A,a.es= []) (hl:A.length≤100) (hq:w'.ownsRow w.heap.size 80 9 uq A.length (zo_ (A.map rE_))):qv_ w w' true z A (.returned (.tuple #[.agg x,uq,true])):=by
 obtain⟨qa,qc,rfl⟩:=ze_ hq;have e:A.length=(A.map rE_).length:=(List.length_map _).symm;rw [e] at hq hl ⊢;exact .inl ⟨rfl,x,A.map rE_,qa,qc,rfl,hz,hp,bare_q hA,fun a ha=>by obtain⟨b,_,rfl⟩:=List.mem_map.1 ha;exact⟨rfl,rfl,rfl⟩,hl,hq⟩
theorem qD_ (x:Nd):∀a∈tmA x,a.es= []:=fun a ha=>by
 obtain⟨j,_,_,rfl⟩:=uQ_ ha;rfl
theorem hmA_es (x:Nd) (m:Ms):∀a∈hmA x m,a.es= []:=by
 intro a ha;unfold hmA at ha
 split at ha
 ·obtain rfl:=List.mem_singleton.1 ha;rfl
 ·split at ha
  ·obtain rfl:=List.mem_singleton.1 ha;unfold appM;split
   ·rfl
   ·split <;>rfl
  ·simp at ha
theorem pg_ (x:Nd) (m:Ms):(hmA x m).length≤1:=by
 unfold hmA;split
 ·simp
 ·split <;>simp
def NodeB (w w':World) (ok:Bool) (z:Nd) (e:Ending):Prop:=
 (ok=true∧∃(x:Nv),e= .returned (.tuple #[.agg x,true])∧x.n=z∧PN w' w.heap.size x)∨
 (ok=false∧∃(x:Nv),e= .returned (.tuple #[.agg x,false]))
def NodeI (w w':World) (ok:Bool) (z:Nd) (e:Ending):Prop:=
 (ok=true∧∃(x:Nv) (i:Int),e= .returned (.tuple #[.agg x,i,true])∧x.n=z∧PN w' w.heap.size x)∨
 (ok=false∧∃(x:Nv) (i:Int),e= .returned (.tuple #[.agg x,i,false]))
def MsgA (w w':World) (ok:Bool) (z:Ms) (e:Ending):Prop:=
 (ok=true∧∃(x:Mv),e= .returned (.tuple #[.agg x,true])∧x.q=z∧PM w' w.heap.size x)∨
 (ok=false∧∃(x:Mv),e= .returned (.tuple #[.agg x,false]))
theorem rH_ (x:Nd):zo_ ((tmA x).map rE_)=zW_ (zC_ x.id (x.te+1) x.log.length (tmAt x.log x.log.length) x.pe.toNat):=by
 rw [vA_];unfold tmA;rw [List.map_map]
 congr 1
 conv=>rhs;rw [←List.map_id (zC_ x.id (x.te+1) x.log.length (tmAt x.log x.log.length) x.pe.toNat)]
 rfl
theorem uR_ (x:Nd):(tmA x).length=(zC_ x.id (x.te+1) x.log.length (tmAt x.log x.log.length) x.pe.toNat).length:=by unfold tmA;rw [List.length_map]
theorem rG_ (x:Nd):(tmX x).id=x.id∧(tmX x).pe=x.pe∧(tmX x).te=x.te+1∧(tmX x).vo=x.id∧(tmX x).co=x.co∧(tmX x).log=x.log:=by
 unfold tmX tmN;split <;>exact⟨rfl,rfl,rfl,rfl,rfl,rfl⟩
theorem xU_ {w:World} {c:Nat} {ul uv um:Value} (z:Nd) (h:OwnN w c ul uv um z.log z.vs z.mt):∃x:Nv,x.n=z∧ul= .slice x.la x.n.log.length x.lc∧uv= .slice x.va x.n.vs.length x.vc∧um= .slice x.ma x.n.mt.length x.mc∧PN w c x:=by
 obtain⟨⟨la,lc,rfl⟩,⟨va,vc,rfl⟩,ma,mc,rfl⟩:=h.shapes;exact⟨⟨z,la,lc,va,vc,ma,mc⟩,rfl,rfl,rfl,rfl,h⟩
theorem pd_ (x:Nv) (c:Nat) (w:World) (hx:PN w c x) (hg:Gd x.n) (ok:Bool) (hok:ok=tmOk (gN x.n) x.n.ro x.n.te):
  Calls Tryz.prog 126 #[.agg x] w fun e w'=>qv_ w w' ok (tmX x.n) (tmA x.n) e∧Below w.heap.size w w':=by
 have hb:=hg.bnd
 cases ok with
 | false=>
  refine (rr_ x.n.id x.n.pe x.n.te x.n.vo x.n.co x.n.ro _ _ _ x.n.log x.n.vs x.n.mt c w hx hb.l hb.v hb.m hb.s hok.symm).mono ?_;rintro e w' ⟨ul,uv,um,rfl,ho,hB⟩;obtain⟨y,hy,rfl,rfl,rfl,_⟩:=xU_ Nd.zero ho;exact⟨.inr ⟨rfl,y,by rw [hy];rfl⟩,hB⟩
 | true=>
  refine (tM_ x.n.id x.n.pe x.n.te x.n.vo x.n.co x.n.ro _ _ _ x.n.log x.n.vs x.n.mt c w hx hb.l hb.v hb.m hb.s hok.symm).mono ?_;rintro e w' ⟨ul,uv,um,uq,rfl,ho,hq,hB⟩;rw [←rH_,←uR_] at hq;obtain⟨e1,e2,e3,e4,e5,e6⟩:=rG_ x.n;obtain⟨y,hy,rfl,rfl,rfl,hp⟩:=xU_ (tmX x.n) (by rw [e6];exact ho);have hl:(tmA x.n).length≤100:=by
   have:=hg.p7;have:=xp_ x.n.id (x.n.te+1) x.n.log.length (tmAt x.n.log x.n.log.length) x.n.pe.toNat;rw [uR_];omega
  have q:=ve_ (w:=w) y hy hp (qD_ x.n) hl hq;refine⟨?_,hB⟩;rw [hy,e1,e2,e3,e4,e5] at q;rw [hy];exact q
theorem pf_ (x:Nv) (d:ByteArray) (c:Nat) (w:World) (hx:PN w c x) (hg:Gd x.n) (hd:d.size≤1048576) (ok:Bool) (hok:ok=prOk (gN x.n) x.n.ro x.n.log.length d):
  Calls Tryz.prog 132 #[.agg x,d] w fun e w'=>NodeI w w' ok (prX x.n d) e∧Below w.heap.size w w':=by
 have hb:=hg.bnd;refine (tN_ x.n.id x.n.pe x.n.te x.n.vo x.n.co x.n.ro _ _ _ x.n.log x.n.vs x.n.mt d c w hx hb.l hb.v hb.m hb.s hd).mono ?_;rintro e w' ⟨ul,uv,um,rfl,ho,hB⟩;rw [show prOk (zm_ x.n.id x.n.pe x.n.te x.n.vo x.n.co x.n.ro x.n.log x.n.vs x.n.mt) x.n.ro x.n.log.length d=ok from hok.symm] at ho ⊢
 cases ok with
 | false=>
  obtain⟨y,hy,rfl,rfl,rfl,_⟩:=xU_ Nd.zero ho;exact⟨.inr ⟨rfl,y,_,by rw [hy];rfl⟩,hB⟩
 | true=>
  obtain⟨y,hy,rfl,rfl,rfl,hp⟩:=xU_ (prX x.n d) ho;exact⟨.inl ⟨rfl,y,_,by rw [hy];rfl,hy,hp⟩,hB⟩
theorem qk_ (x:Nv) (c:Nat) (w:World) (hx:PN w c x) (hg:Gd x.n) (ok:Bool) (hok:ok=gN x.n):
  Calls Tryz.prog 134 #[.agg x] w fun e w'=>NodeB w w' ok (crX x.n) e∧Below w.heap.size w w':=by
 have hb:=hg.bnd;refine (tf_ x.n.id x.n.pe x.n.te x.n.vo x.n.co x.n.ro _ _ _ x.n.log x.n.vs x.n.mt c w hx hb.l hb.v hb.m hb.s).mono ?_;rintro e w' ⟨ul,uv,um,rfl,ho,hB⟩;rw [show zm_ x.n.id x.n.pe x.n.te x.n.vo x.n.co x.n.ro x.n.log x.n.vs x.n.mt=ok from hok.symm] at ho ⊢
 cases ok with
 | false=>
  obtain⟨y,hy,rfl,rfl,rfl,_⟩:=xU_ Nd.zero ho;exact⟨.inr ⟨rfl,y,by rw [hy];rfl⟩,hB⟩
 | true=>
  obtain⟨y,hy,rfl,rfl,rfl,hp⟩:=xU_ (crX x.n) ho;exact⟨.inl ⟨rfl,y,by rw [hy];rfl,hy,hp⟩,hB⟩
theorem mv_of {w:World} {c:Nat} {ue:Value} (z:Ms) (h:w.ownsRow c 44 2 ue z.es.length (zF_ z.es)):∃x:Mv,x.q=z∧ue= .slice x.ea x.q.es.length x.ec∧PM w c x:=by
 obtain⟨a,b,rfl⟩:=ze_ h;exact⟨⟨z,a,b⟩,rfl,rfl,h⟩
theorem implAFC (x:Nv) (peer many:Int) (c:Nat) (w:World) (hx:PN w c x) (hg:Gd x.n) (ok:Bool) (hok:ok=afOk (gN x.n) x.n.id x.n.pe x.n.ro peer many):
  Calls Tryz.prog 133 #[.agg x,peer,many] w fun e w'=>MsgA w w' ok (afX x.n peer many) e∧Below w.heap.size w w':=by
 have hb:=hg.bnd;refine (qm_ x.n.id x.n.pe x.n.te x.n.vo x.n.co x.n.ro _ _ _ x.n.log x.n.vs x.n.mt peer many c w hx hb.l hb.v hb.m hb.s).mono ?_;rintro e w' ⟨ue,rfl,ho,hB⟩;rw [show afOk (zm_ x.n.id x.n.pe x.n.te x.n.vo x.n.co x.n.ro x.n.log x.n.vs x.n.mt) x.n.id x.n.pe x.n.ro peer many=ok from hok.symm] at ho ⊢
 cases ok with
 | false=>
  obtain⟨y,hy,rfl,_⟩:=mv_of Ms.zero ho;exact⟨.inr ⟨rfl,y,by rw [hy];rfl⟩,hB⟩
 | true=>
  obtain⟨y,hy,rfl,hp⟩:=mv_of (afX x.n peer many) ho;exact⟨.inl ⟨rfl,y,by rw [hy];rfl,hy,hp⟩,hB⟩
theorem implHMC (x:Nv) (m:Mv) (p:Nat) (c b2 g mc:Nat) (w:World) (hx:PN w c x) (hm:PM w b2 m) (hg:Gd x.n) (hp:x.n.pe=(p:Int)) (hgm:gMs p m.q=true) (hd:m.q.dst=x.n.id) (ok:Bool) (hok:ok=hmOk x.n m.q):
  Calls Tryz.prog 130 #[.agg x,.agg m] w fun e w'=>qv_ w w' ok (hmX x.n m.q) (hmA (hmU x.n m.q.te) m.q) e∧Below w.heap.size w w':=by
 have hP:hmP x.n m.q=true:=by
  unfold hmP;rw [hg.good,hp];have:gMi (p:Int) m.q=true:=hgm;rw [this,hd];simp
 obtain⟨⟨id,pe,te,vo,co,ro,log,vs,mt⟩,la,lc,va,vc,ma,mc'⟩:=x;obtain⟨⟨ki,fr,dst,mte,ix,be,mco,ye,es⟩,ea,ec⟩:=m;have hi0:=hg.i0;have hcap:=vw_ hm;have hn:=OwnN.nns hx;obtain⟨a1,a2,a3,a4,a5,a6,a7⟩:=zt_ hgm;dsimp only at hp hd hi0 hP hok a2 a3 a7 hcap ⊢;subst hp;obtain⟨k,rfl⟩:=Int.eq_ofNat_of_zero_le hi0;obtain rfl:dst=(k:Int):=hd;obtain⟨f,rfl⟩:=Int.eq_ofNat_of_zero_le a2.1;have hix:0≤ix:=by
  rcases xd_ a7 with rfl | rfl | rfl | rfl
  ·exact (vk_ a7).1.1
  ·have:=(vj_ a7).1;omega
  ·exact (xe_ a7).1.1
  ·exact (xR_ a7).1.1
 obtain⟨q,rfl⟩:=Int.eq_ofNat_of_zero_le hix;refine (qj_ ki k p te vo co ro la lc va vc ma mc' log vs mt f q mte be mco ye ea ec es w (OwnN.er hx) (OwnN.iv hx) (OwnN.im hx) (yd_ hm rfl) hcap hn.1 hn.2.1 hn.2.2 hP _ rfl _ rfl ok hok).mono ?_;rintro e w' ⟨hA,hB⟩;refine⟨?_,hB⟩;rcases hA with⟨h1,ul,uv,um,ua,rfl,ho,hq⟩ | ⟨h1,rfl⟩
 ·rw [←vA_] at hq;obtain⟨y,hy,rfl,rfl,rfl,hp⟩:=xU_ _ ho;subst h1;have q:=ve_ (w:=w) y hy hp (hmA_es _ _) (Nat.le_trans (pg_ _ _) (by omega)) hq;rw [hy] at q ⊢;exact q
 ·exact .inr ⟨h1,Nv.zero,rfl⟩
theorem xX_ (lo hi:Nat) (vn vm vl:Value) (N:List Nv) (M:List Mv) (L:List Ld) (x:Nv) (j:Nat) (hid:x.n.id=(j:Int)) (hj:j<N.length) (w:World) (h:OwnC w lo hi vn vm vl N M L) (hx:PN w hi x) (hh:hi≤w.heap.size) (hL:L.length≤1000):
  Calls Tryz.prog 127 #[.agg #[vn,vm,vl],.agg x] w fun e w'=>∃ul,e= .returned (.agg #[vn,vm,ul])∧OwnC w' lo w'.heap.size vn vm ul (N.set j x) M (zB_ L N[j].n x.n)∧Chg (fun b=>vn.ownBlock=some b∨vl.ownBlock=some b) w w':=by
 obtain⟨⟨id,pe,te,vo,co,ro,log,vs,mt⟩,la,lc,va,vc,ma,mc'⟩:=x;dsimp only at hid;subst hid;exact tp_ lo hi vn vm vl N M L j hj pe te vo co ro la lc va vc ma mc' log vs mt w h hx hh hL
set_option maxHeartbeats 32000000
theorem goodC_n {N:List Nv} {M:List Ms} {L:List Ld} (h:yy_ (N.map Nv.n)=false):zU_ (N.map Nv.n) M L=false:=by simp [zU_,h]
theorem goodC_m {N:List Nv} {M:List Ms} {L:List Ld} (h:ud_ N.length M=false):zU_ (N.map Nv.n) M L=false:=by simp [zU_,h]
theorem goodC_l {N:List Nv} {M:List Ms} {L:List Ld} (h:yz_ N.length L=false):zU_ (N.map Nv.n) M L=false:=by simp [zU_,h]
theorem pn_ {N:List Nv} {M:List Mv} {L:List Ld} (h1:1≤N.length) (h2:N.length≤7) (h3:M.length≤60) (h4:L.length≤1000) (hn:∀j (h:j<N.length),ndOk N.length j N[j].n=true) (hm:∀j (h:j<M.length),gMs N.length M[j].q=true) (hl:∀j (h:j<L.length),ldOk N.length L[j]=true):zU_ (N.map Nv.n) (M.map Mv.q) L=true:=by
 unfold zU_;rw [vD_ hn];simp only [List.length_map];rw [uA_ hm,vF_ hl];simp [h1,h2,h3,h4]
theorem uU_ (vn vm vl:Value) (N:List Nv) (M:List Mv) (L:List Ld) (w:World) (h:CR w vn vm vl N M L) (hs:CS N M L):
  Calls Tryz.prog 12 #[.agg #[vn,vm,vl]] w fun e w'=>e= .returned (.bool (zU_ (N.map Nv.n) (M.map Mv.q) L))∧Below w.heap.size w w':=by
 obtain⟨⟨na,nc,hcn⟩,⟨xa,xc,hcm⟩,ya,yc,hcl⟩:=h.shapes;subst hcn;subst hcm;subst hcl;have hB:=zb_ w (.cells #[.slice na N.length nc,.slice xa M.length xc,.slice ya L.length yc] 30);have X:=Box.new w #[.slice na N.length nc,.slice xa M.length xc,.slice ya L.length yc] 30;have HEN:=fun k (hk:k<N.length) W (hb:Below w.heap.size w W)=>(h.ne k hk).below hb;have HEM:=fun k (hk:k<M.length) W (hb:Below w.heap.size w W)=>(h.me k hk).below hb;obtain⟨a1,c1,e1,hcN⟩:=h.n;obtain⟨a2,c2,e2,hcM⟩:=h.m;obtain⟨a3,c3,e3,hcL⟩:=h.l;simp only [Value.slice.injEq,true_and] at e1 e2 e3;obtain⟨rfl,rfl⟩:=e1;obtain⟨rfl,rfl⟩:=e2;obtain⟨rfl,rfl⟩:=e3;have hNl:=hs.n;have hMl:=hs.m;have hLl:=hs.l;clear h;have KP:=fun W=>yF_ (N.length:Int) W;have HB0:Hid (inB (N.length:Int) 1 7=false→zU_ (N.map Nv.n) (M.map Mv.q) L=false):=fun e=>by
  have:¬(1≤N.length∧N.length≤7):=fun hh=>by simp [inB] at e;omega
  unfold zU_;simp only [List.length_map];by_cases h1:1≤N.length
  ·rw [decide_eq_false (show ¬N.length≤7 from fun h2=>this ⟨h1,h2⟩)];simp
  ·rw [decide_eq_false h1];rfl
 by_cases hq:1≤N.length∧N.length≤7;rotate_left
 ·have hib:inB (N.length:Int) 1 7=false:=by simp [inB];omega
  have HV:Hid (zU_ (N.map Nv.n) (M.map Mv.q) L=false):=HB0.out hib;rw [hib] at KP;clear hcN hcM hcL HEN HEM hs HB0;go_enter Tryz.func12,Tryz.ntmps12;go_wp2_with fail;refine (KP _).mono ?_;rintro e w1 ⟨rfl,hw⟩;subst hw;clear KP;go_wp2;go_ret;exact⟨by rw [HV.out];try rfl,hB⟩
 obtain⟨q1,q2⟩:=hq;have hib:inB (N.length:Int) 1 7=true:=by simp [inB];omega
 rw [hib] at KP;clear hib HB0;by_cases q3:M.length≤60;rotate_left
 ·have HV:Hid (zU_ (N.map Nv.n) (M.map Mv.q) L=false):=by show _=_;unfold zU_;simp [q3]
  have q3b:(60:Int)<(M.length:Int):=by omega
  clear hcN hcM hcL HEN HEM hs;go_enter Tryz.func12,Tryz.ntmps12;go_wp2_with fail;refine (KP _).mono ?_;rintro e w1 ⟨rfl,hw⟩;subst hw;clear KP;go_wp2;go_ret;exact⟨by rw [HV.out];try rfl,hB⟩
 have q3b:¬(60:Int)<(M.length:Int):=by omega
 by_cases q4:L.length≤1000;rotate_left
 ·have HV:Hid (zU_ (N.map Nv.n) (M.map Mv.q) L=false):=by show _=_;unfold zU_;simp [q4]
  have q4b:(1000:Int)<(L.length:Int):=by omega
  clear hcN hcM hcL HEN HEM hs;go_enter Tryz.func12,Tryz.ntmps12;go_wp2_with fail;refine (KP _).mono ?_;rintro e w1 ⟨rfl,hw⟩;subst hw;clear KP;go_wp2;go_ret;exact⟨by rw [HV.out];try rfl,hB⟩
 have q4b:¬(1000:Int)<(L.length:Int):=by omega
 go_enter Tryz.func12,Tryz.ntmps12;go_wp2_with fail;refine (KP _).mono ?_;rintro e w1 ⟨rfl,hw⟩;subst hw;clear KP;go_wp2;clear q3b q4b
 go_loopw [29] (fun i wr=>∃k:Nat,k≤N.length∧i= .int .i64 k∧(∀j (h:j<N.length),j<k→ndOk N.length j N[j].n=true)∧Below w.heap.size w wr∧Box wr w.heap.size [.slice na N.length nc,.slice xa M.length xc,.slice ya L.length yc]) (fun i _=>N.length-(intOf i).toNat)
 case atStart=>exact⟨0,Nat.zero_le _,rfl,fun j _ h=>absurd h (Nat.not_lt_zero j),hB,X⟩
 case round=>
  obtain⟨k,hk,rfl,hall,hb,X⟩:=hrel;clear hB;by_cases hlt:k<N.length
  ·obtain⟨b,off,rfl,hbl,hcell⟩:=hcN (by intro e;simp [e] at hlt);obtain⟨z0,z1,z2,z3,z4,z5,z6,z7,z8⟩:=hcell k hlt;have hc0:=(hb.cell (p:=⟨b,off+k*9,none⟩) hbl).trans z0;have hc1:=(hb.cell (p:=⟨b,off+k*9+1,none⟩) hbl).trans z1;have hc2:=(hb.cell (p:=⟨b,off+k*9+2,none⟩) hbl).trans z2;have hc3:=(hb.cell (p:=⟨b,off+k*9+3,none⟩) hbl).trans z3;have hc4:=(hb.cell (p:=⟨b,off+k*9+4,none⟩) hbl).trans z4;have hc5:=(hb.cell (p:=⟨b,off+k*9+5,none⟩) hbl).trans z5;have hc6:=(hb.cell (p:=⟨b,off+k*9+6,none⟩) hbl).trans z6;have hc7:=(hb.cell (p:=⟨b,off+k*9+7,none⟩) hbl).trans z7;have hc8:=(hb.cell (p:=⟨b,off+k*9+8,none⟩) hbl).trans z8;have hE:=HEN k hlt _ hb;have hS:=hs.ne k hlt;have hS2:=hs.ns k hlt;have HF:Hid (ndOk N.length k N[k].n=false→zU_ (N.map Nv.n) (M.map Mv.q) L=false):=fun e=>goodC_n (vd_ hlt e);have HA:Hid (ndOk N.length k N[k].n=true→∀j (h:j<N.length),j<k+1→ndOk N.length j N[j].n=true):=fun e j h hj=>by
    by_cases hjk:j<k
    ·exact hall j h hjk
    ·obtain rfl:j=k:=by omega
     exact e
   clear hcell hcN HEN hs hall z0 z1 z2 z3 z4 z5 z6 z7 z8 hcM hcL HEM;generalize N[k]=s at*;obtain⟨⟨id,pe,te,vo,co,ro,log,vs,mt⟩,la,lc,va,vc,ma,mc⟩:=s;dsimp only at hc0 hc1 hc2 hc3 hc4 hc5 hc6 hc7 hc8 hE hS hS2 HF HA;have hz:=hb.size;have hB0:=hb.alloc hz (.cells #[id,pe,te,vo,.slice la log.length lc,co,ro,.slice va vs.length vc,.slice ma mt.length mc] 42);have X0:=Box.new wr #[id,pe,te,vo,.slice la log.length lc,co,ro,.slice va vs.length vc,.slice ma mt.length mc] 42;have hBw:=zb_ wr (.cells #[id,pe,te,vo,.slice la log.length lc,co,ro,.slice va vs.length vc,.slice ma mt.length mc] 42);have KG:=zx_ id pe te vo co ro _ _ _ log vs mt _ (hE.1.below hBw) (hE.2.1.below hBw) (hE.2.2.below hBw) hS.1 hS.2.1 hS.2.2 hS2;replace X:=X.below hBw;have HD:Hid (ndOk N.length k ⟨id,pe,te,vo,co,ro,log,vs,mt⟩=(zm_ id pe te vo co ro log vs mt&&(decide (id=(k:Int))&&decide (pe=(N.length:Int))))):=rfl;clear hE hS hS2 hBw;dsimp only at KG;generalize zm_ id pe te vo co ro log vs mt=ge at*;go_wp2_with fail;refine KG.mono ?_;rintro e w1 ⟨rfl,hb1⟩;have hB1:=hB0.trans (hb1.mono hB0.size);replace X:=X.below hb1;have X1:=X0.below hb1;obtain⟨hx0,v0,v1,v2,v3,v4,v5,v6,v7,v8⟩:=X1.e9;obtain⟨hxl,x0,x1,x2⟩:=X.c3;clear KG hB0 X0 hb1 hb
   cases ge with
   | false=>
    have HV:Hid (zU_ (N.map Nv.n) (M.map Mv.q) L=false):=HF.out (by rw [HD.out];rfl);clear HF HA HD;go_wp2;go_ret;exact⟨by rw [HV.out];try rfl,hB1⟩
   | true=>
    by_cases h1:id=(k:Int)
    ·subst h1;by_cases h2:pe=(N.length:Int)
     ·subst h2;have HA2:=HA.out (by rw [HD.out];simp);clear HF HA HD;go_wp2;go_roundw
      case rel=>exact⟨k+1,by omega,by go_num,HA2,hB1,X⟩
      case measure=>simp [intOf];omega
     ·have HV:Hid (zU_ (N.map Nv.n) (M.map Mv.q) L=false):=HF.out (by rw [HD.out];simp [h2]);have h2b:(pe !=(N.length:Int))=true:=by simp [h2]
      clear HF HA HD;go_wp2;go_ret;exact⟨by rw [HV.out];try rfl,hB1⟩
    ·have HV:Hid (zU_ (N.map Nv.n) (M.map Mv.q) L=false):=HF.out (by rw [HD.out];simp [h1]);have h1b:(id !=(k:Int))=true:=by simp [h1]
     clear HF HA HD;go_wp2;go_ret;exact⟨by rw [HV.out];try rfl,hB1⟩
  ·have hk:k=N.length:=by omega
   have HAN:Hid (∀j (h:j<N.length),ndOk N.length j N[j].n=true):=fun j h=>hall j h (by omega);clear hall;have hB1:=hb;obtain⟨hxl,x0,x1,x2⟩:=X.c3;clear hcN HEN;have hB:=hb;clear hb hB1;subst hk;go_wp2;clear hxl x0 x1 x2
   go_loopw [55] (fun i wr=>∃k:Nat,k≤M.length∧i= .int .i64 k∧(∀j (h:j<M.length),j<k→gMs N.length M[j].q=true)∧Below w.heap.size w wr∧Box wr w.heap.size [.slice na N.length nc,.slice xa M.length xc,.slice ya L.length yc]) (fun i _=>M.length-(intOf i).toNat)
   case atStart=>exact⟨0,Nat.zero_le _,rfl,fun j _ h=>absurd h (Nat.not_lt_zero j),hB,X⟩
   case round=>
    obtain⟨k,hk,rfl,hall,hb,X⟩:=hrel;clear hB;by_cases hlt:k<M.length
    ·obtain⟨b,off,rfl,hbl,hcell⟩:=hcM (by intro e;simp [e] at hlt);obtain⟨z0,z1,z2,z3,z4,z5,z6,z7,z8⟩:=hcell k hlt;have hc0:=(hb.cell (p:=⟨b,off+k*9,none⟩) hbl).trans z0;have hc1:=(hb.cell (p:=⟨b,off+k*9+1,none⟩) hbl).trans z1;have hc2:=(hb.cell (p:=⟨b,off+k*9+2,none⟩) hbl).trans z2;have hc3:=(hb.cell (p:=⟨b,off+k*9+3,none⟩) hbl).trans z3;have hc4:=(hb.cell (p:=⟨b,off+k*9+4,none⟩) hbl).trans z4;have hc5:=(hb.cell (p:=⟨b,off+k*9+5,none⟩) hbl).trans z5;have hc6:=(hb.cell (p:=⟨b,off+k*9+6,none⟩) hbl).trans z6;have hc7:=(hb.cell (p:=⟨b,off+k*9+7,none⟩) hbl).trans z7;have hc8:=(hb.cell (p:=⟨b,off+k*9+8,none⟩) hbl).trans z8;have hE:=HEM k hlt _ hb;have hS:=hs.me k hlt;have hS2:=hs.ms k hlt;have HF:Hid (gMs N.length M[k].q=false→zU_ (N.map Nv.n) (M.map Mv.q) L=false):=fun e=>goodC_m (uc_ hlt e);have HA:Hid (gMs N.length M[k].q=true→∀j (h:j<M.length),j<k+1→gMs N.length M[j].q=true):=fun e j h hj=>by
      by_cases hjk:j<k
      ·exact hall j h hjk
      ·obtain rfl:j=k:=by omega
       exact e
     clear hcell hcM HEM hs hall z0 z1 z2 z3 z4 z5 z6 z7 z8 hcL HAN;generalize M[k]=s at*;obtain⟨⟨ki,fr,dst,te,ix,be,co,ye,es⟩,ea,ec⟩:=s;dsimp only at hc0 hc1 hc2 hc3 hc4 hc5 hc6 hc7 hc8 hE hS hS2 HF HA;have hz:=hb.size;have hB0:=hb.alloc hz (.cells #[ki,fr,dst,te,ix,be,.slice ea es.length ec,co,ye] 80);have X0:=Box.new wr #[ki,fr,dst,te,ix,be,.slice ea es.length ec,co,ye] 80;have hBw:=zb_ wr (.cells #[ki,fr,dst,te,ix,be,.slice ea es.length ec,co,ye] 80);have KG:=ys_ N.length ki fr dst te ix be co ye _ es _ (ER.below hE hBw) hS hS2;replace X:=X.below hBw;have HD:Hid (gMs N.length ⟨ki,fr,dst,te,ix,be,co,ye,es⟩=xg_ N.length ki fr dst te ix be co ye es):=rfl;clear hE hS hS2 hBw;dsimp only at KG;generalize xg_ N.length ki fr dst te ix be co ye es=ge at*;obtain⟨hxl,x0,x1,x2⟩:=X.c3;go_wp2_with fail;refine KG.mono ?_;rintro e w1 ⟨rfl,hb1⟩;have hB1:=hB0.trans (hb1.mono hB0.size);replace X:=X.below hb1;clear KG hB0 X0 hb1 hb hxl x0 x1 x2
     cases ge with
     | false=>
      have HV:Hid (zU_ (N.map Nv.n) (M.map Mv.q) L=false):=HF.out HD.out;clear HF HA HD;go_wp2;go_ret;exact⟨by rw [HV.out];try rfl,hB1⟩
     | true=>
      have HA2:=HA.out HD.out;clear HF HA HD;go_wp2;go_roundw
      case rel=>exact⟨k+1,by omega,by go_num,HA2,hB1,X⟩
      case measure=>simp [intOf];omega
    ·have hk:k=M.length:=by omega
     have HAM:Hid (∀j (h:j<M.length),gMs N.length M[j].q=true):=fun j h=>hall j h (by omega);clear hall;have hB1:=hb;obtain⟨hxl,x0,x1,x2⟩:=X.c3;clear hcM HEM;have hB:=hb;clear hb hB1;subst hk;go_wp2;clear hxl x0 x1 x2
     go_loopw [69] (fun i wr=>∃k:Nat,k≤L.length∧i= .int .i64 k∧(∀j (h:j<L.length),j<k→ldOk N.length L[j]=true)∧Below w.heap.size w wr∧Box wr w.heap.size [.slice na N.length nc,.slice xa M.length xc,.slice ya L.length yc]) (fun i _=>L.length-(intOf i).toNat)
     case atStart=>exact⟨0,Nat.zero_le _,rfl,fun j _ h=>absurd h (Nat.not_lt_zero j),hB,X⟩
     case round=>
      obtain⟨k,hk,rfl,hall,hb,X⟩:=hrel;clear hB;by_cases hlt:k<L.length
      ·obtain⟨b,off,rfl,hbl,hcell⟩:=hcL (by intro e;simp [e] at hlt);obtain⟨z0,z1⟩:=hcell k hlt;have hc0:=(hb.cell (p:=⟨b,off+k*2,none⟩) hbl).trans z0;have hc1:=(hb.cell (p:=⟨b,off+k*2+1,none⟩) hbl).trans z1;have HF:Hid (ldOk N.length L[k]=false→zU_ (N.map Nv.n) (M.map Mv.q) L=false):=fun e=>goodC_l (vi_ hlt e);have HA:Hid (ldOk N.length L[k]=true→∀j (h:j<L.length),j<k+1→ldOk N.length L[j]=true):=fun e j h hj=>by
        by_cases hjk:j<k
        ·exact hall j h hjk
        ·obtain rfl:j=k:=by omega
         exact e
       clear hcell hcL hall z0 z1 hs HAN HAM;generalize L[k]=s at*;obtain⟨t,n⟩:=s;dsimp only at hc0 hc1 HF HA;have hz:=hb.size;have hB0:=hb.alloc hz (.cells #[t,n] 34);have X0:=Box.new wr #[t,n] 34;replace X:=X.below (zb_ wr (.cells #[t,n] 34));obtain⟨hxl,x0,x1,x2⟩:=X.c3;have KP:=fun W=>zu_ n 0 ((N.length:Int)-1) W;have KT:=fun W=>zu_ t 1 1000 W;have HD:Hid (ldOk N.length ⟨t,n⟩=(inB t 1 1000&&inB n 0 ((N.length:Int)-1))):=by show _=_;rw [yM_];rfl
       obtain⟨pl,hpl⟩:∃pl:Int,pl=(N.length:Int)-1:=⟨_,rfl⟩;generalize inB t 1 1000=it at*;generalize inB n 0 ((N.length:Int)-1)=ip at*;clear hpl;go_wp2_with fail;refine (KT _).mono ?_;rintro e w1 ⟨rfl,hw⟩;subst hw;clear KT
       cases it with
       | false=>
        have HV:Hid (zU_ (N.map Nv.n) (M.map Mv.q) L=false):=HF.out (by rw [HD.out];rfl);have hB1:=hB0;clear HF HA HD KP;go_wp2;go_ret;exact⟨by rw [HV.out];try rfl,hB1⟩
       | true=>
        go_wp2_with fail;refine (KP _).mono ?_;rintro e w1 ⟨rfl,hw⟩;subst hw;clear KP hxl x0 x1 x2;have hB1:=hB0;clear hB0
        cases ip with
        | false=>
         have HV:Hid (zU_ (N.map Nv.n) (M.map Mv.q) L=false):=HF.out (by rw [HD.out];rfl);clear HF HA HD;go_wp2;go_ret;exact⟨by rw [HV.out];try rfl,hB1⟩
        | true=>
         have HA2:=HA.out (by rw [HD.out];rfl);clear HF HA HD;go_wp2;go_roundw
         case rel=>exact⟨k+1,by omega,by go_num,HA2,hB1,X⟩
         case measure=>simp [intOf];omega
      ·have hk:k=L.length:=by omega
       have HAL:Hid (∀j (h:j<L.length),ldOk N.length L[j]=true):=fun j h=>hall j h (by omega);clear hall;have hB1:=hb;obtain⟨hxl,x0,x1,x2⟩:=X.c3;have HV:Hid (zU_ (N.map Nv.n) (M.map Mv.q) L=true):=pn_ q1 q2 q3 q4 HAN.out HAM.out HAL.out;clear hcL hs HAL HAM HAN X;subst hk;go_wp2;go_ret;exact⟨by rw [HV.out];try rfl,hB1⟩
end Go.Proofs.YtapfhhmimkkhnaaGreat
namespace Go.Proofs.YtapfhhmimkkhnaaGreat
open Go.RowKit
set_option linter.unusedVariables false
set_option maxRecDepth 100000
theorem rL_ {α β:Type} {f:α→β} {l l':List α} (h:l'.map f=l.map f) (i:Nat) (hi:i<l'.length):∃hi2:i<l.length,f l'[i]=f l[i]:=by
 have hl:l'.length=l.length:=by have:=congrArg List.length h;simpa using this
 refine⟨by omega,?_⟩;have:=congrArg (fun t=>t[i]?) h;simpa [hi,show i<l.length from by omega] using this
theorem CS.same {N N':List Nv} {M M':List Mv} {L:List Ld} (h:CS N M L) (hn:N'.map Nv.n=N.map Nv.n) (hm:M'.map Mv.q=M.map Mv.q):CS N' M' L:=by
 have l1:N'.length=N.length:=by have:=congrArg List.length hn;simpa using this
 have l2:M'.length=M.length:=by have:=congrArg List.length hm;simpa using this
 refine⟨by rw [l1];exact h.n,by rw [l2];exact h.m,h.l,fun i hi=> ?_,fun i hi=> ?_,fun i hi j hj=> ?_,fun i hi j hj=> ?_⟩
 ·obtain⟨h2,e⟩:=rL_ hn i hi;rw [e];exact h.ne i h2
 ·obtain⟨h2,e⟩:=rL_ hm i hi;rw [e];exact h.me i h2
 ·obtain⟨h2,e⟩:=rL_ hn i hi;simp only [e] at hj ⊢;exact h.ns i h2 j hj
 ·obtain⟨h2,e⟩:=rL_ hm i hi;simp only [e] at hj ⊢;exact h.ms i h2 j hj
end Go.Proofs.YtapfhhmimkkhnaaGreat
namespace Go.Proofs.YtapfhhmimkkhnaaGreat
open Go.RowKit Go.Maps
set_option linter.unusedVariables false
set_option maxRecDepth 100000
set_option maxHeartbeats 16000000
theorem xK_ (ki fr dst te ix be co:Int) (ye:Bool) (ea:Option Addr) (ec:Nat) (es:List En) (w:World) (he:ER w (.slice ea es.length ec) es) (hn:Nn (.slice ea es.length ec)) (hl:es.length≤1048576):
  Calls Tryz.prog 88 #[.agg #[ki,fr,dst,te,ix,be,.slice ea es.length ec,co,ye]] w fun e w'=>∃ua uc,e= .returned (.agg #[ki,fr,dst,te,ix,be,.slice ua es.length uc,co,ye])∧w'.ownsRow w.heap.size 44 2 (.slice ua es.length uc) es.length (zF_ es)∧Below w.heap.size w w':=by
 obtain⟨W0,hW0,hB,X,Y,hz0⟩:=al2 w [ki,fr,dst,te,ix,be,.slice ea es.length ec,co,ye] 80 zM 80;have K:=fun W (q:Below w.heap.size w W)=>xa_ (.slice ea es.length ec) es W (he.below q) hn hl;clear he hn;obtain⟨xl,x0,x1,x2,x3,x4,x5,x6,x7,x8⟩:=X.e9;go_enter Tryz.func88,Tryz.ntmps88;go_upto_region 1 with fail;rw [←hW0];clear hW0;go_wp2_with fail;refine (K _ hB).mono ?_;rintro e w3 ⟨u,rfl,o3,hb3⟩;obtain⟨ua,uc,rfl⟩:=ze_ o3;replace X:=X.below hb3;replace Y:=Y.below hb3;have hz3:=hb3.size;have g3:=zg_ o3;replace hB:=za_ hB hb3;clear K hb3 xl x0 x1 x2 x3 x4 x5 x6 x7 x8;obtain⟨W4,hW4⟩:∃W,W=w3.setCell ⟨w.heap.size,6,none⟩ (.slice ua es.length uc):=⟨_,rfl⟩;have hC4:Chg (fun b=>b=w.heap.size) w3 W4:=by rw [hW4];exact Chg.setCell (S:=fun b=>b=w.heap.size) (Chg.refl _ _) rfl _
 have X4:Box W4 w.heap.size [ki,fr,dst,te,ix,be,.slice ua es.length uc,co,ye]:=by rw [hW4];exact X.set 6 _ (by simp)
 have Y4:=hC4.box Y (by omega);obtain⟨xl,x0,x1,x2,x3,x4,x5,x6,x7,x8⟩:=X.e9;have f6:=X.2.2 6;go_upto_region 2 with fail;rw [←hW4];clear hW4 xl x0 x1 x2 x3 x4 x5 x6 x7 x8 f6 X Y;obtain⟨W5,hW5,hC5,Y5⟩:=zj_ W4 Y4 ki fr dst te ix be (.slice ua es.length uc) co ye;have hC45:Chg (fun b=>b=w.heap.size∨b=w.heap.size+1) w3 W5:=(hC4.mono fun b hb=> .inl hb).trans (hC5.mono fun b hb=> .inr hb);have o5:=zf_ (hC45.owns o3 (fun b hb hh=>by have:=g3 b hb;omega)) (show w.heap.size≤W0.heap.size from by omega);have hB5:=hB.trans (hC45.below (B:=w.heap.size) (by omega) (fun b hb=>by omega));clear hC5 hC45 hC4 o3 hB g3;obtain⟨xl,x0,x1,x2,x3,x4,x5,x6,x7,x8⟩:=X4.e9;obtain⟨yyl,y0,y1,y2,y3,y4,y5,y6,y7,y8⟩:=Y4.e9;obtain⟨f0,f1,f2,f3,f4,f5,f6,f7,f8⟩:=Y4.f9;clear X4 Y4;obtain⟨zl,t0,t1,t2,t3,t4,t5,t6,t7,t8⟩:=Y5.e9;clear Y5;unfold put9 at*;go_wp2;rw [←hW5];exact bodyPost_ret (v:= .agg #[ki,fr,dst,te,ix,be,.slice ua es.length uc,co,ye]) (by simp [results,Tryz.results88,go_sem,t0,t1,t2,t3,t4,t5,t6,t7,t8]) rfl ⟨_,_,rfl,o5,hB5⟩
theorem qI_ {α:Type} (P l:List α) (k:Nat) (hp:P.length=k) (hk:k<l.length) (x:α):(P++l.drop k).set k x=(P++ [x])++l.drop (k+1):=by
 subst hp;rw [List.set_append_right _ _ (Nat.le_refl _),Nat.sub_self,List.drop_eq_getElem_cons hk,sB_,List.append_assoc]
 rfl
theorem mid_at {α:Type} (P l:List α) (k:Nat) (hp:P.length=k) (hk:k<l.length):∃h:k<(P++l.drop k).length,(P++l.drop k)[k]=l[k]:=by
 subst hp;refine⟨by simp;omega,?_⟩;rw [List.getElem_append_right (Nat.le_refl _)];simp
theorem vx_ {α:Type} (P l:List α) (k:Nat) (hp:P.length=k) (hk:k≤l.length):(P++l.drop k).length=l.length:=by
 subst hp;simp;omega
theorem vg_ {α β:Type} (f:α→β) (P l:List α) (k:Nat) (hk:k<l.length) (h:P.map f=(l.take k).map f) (x:α) (hx:f x=f l[k]):(P++ [x]).map f=(l.take (k+1)).map f:=by
 rw [List.map_append,h,List.take_succ_eq_append_getElem hk,List.map_append,List.map_singleton,List.map_singleton,hx]
end Go.Proofs.YtapfhhmimkkhnaaGreat
