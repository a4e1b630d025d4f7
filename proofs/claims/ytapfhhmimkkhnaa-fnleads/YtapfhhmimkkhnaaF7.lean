/-
  AppendFor: the specification's side.
-/
import Derived.Test.YtapfhhmimkkhnaaF6
import Derived.Deep.RegionHeld3
namespace Go.Proofs.Ytapfhhmimkkhnaa
open Go.RowKit Go.Maps
set_option maxHeartbeats 8000000
set_option linter.unusedVariables false
set_option maxRecDepth 100000
theorem sl_mid (w:World) (a:Option Addr) (cap p n:Nat) (zs:List En) (h:ER w (.slice a zs.length cap) zs) (hc:zs.length≤cap) (hp:p+n≤zs.length):∃a2,(∀w,(Instr.sliceAt 23 (.slice a zs.length cap) (some (.int .i64 p)) (some (.int .i64 ((p:Int)+(n:Int)))) none).run Try.prog w= .ok (.slice a2 n (cap-p)) w)∧ER w (.slice a2 n (cap-p)) ((zs.drop p).take n):=by
 obtain⟨a2,_,h1,h2⟩:=sl_from2 w a cap p zs h hc (by omega);have h3:=ER_to (zs:=zs.drop p) (a:=a2) (cap:=cap-p) (p:=n) (by rw [List.length_drop];exact h2) (by rw [List.length_drop];omega);refine⟨a2,fun W=> ?_,h3⟩;have e1:=h1 W;have q1:(p:Int)≤(zs.length:Int):=by omega
 have q2:(0:Int)≤(p:Int):=by omega
 have q3:(p:Int)≤(p:Int)+(n:Int):=by omega
 have q4:(p:Int)+(n:Int)≤(cap:Int):=by omega
 have q5:p≤zs.length:=by omega
 have q6:p+n≤cap:=by omega
 have q7:((p:Int)+(n:Int)).toNat=p+n:=by omega
 have q8:p+n-p=n:=by omega
 have hA:(Instr.sliceAt 23 (.slice a zs.length cap) (some (.int .i64 p)) none none).run Try.prog W=(Instr.slice 23 (.slice a zs.length cap) (some (.int .i64 p)) none none).run Try.prog W:=by simp [Instr.sliceAt,run_underlying Try.underlying23]
 have hB:(Instr.sliceAt 23 (.slice a zs.length cap) (some (.int .i64 p)) (some (.int .i64 ((p:Int)+(n:Int)))) none).run Try.prog W=(Instr.slice 23 (.slice a zs.length cap) (some (.int .i64 p)) (some (.int .i64 ((p:Int)+(n:Int)))) none).run Try.prog W:=by simp [Instr.sliceAt,run_underlying Try.underlying23]
 rw [hA] at e1;rw [hB];have q9:(0:Int)≤(p:Int)+(n:Int):=by omega
 simp [Instr.slice,Instr.sliceBounds,Instr.sliceBound,asIntOf,run_underlying Try.underlying23,q5,q2,Try.sizeOf34] at e1;simp [Instr.slice,Instr.sliceBounds,Instr.sliceBound,asIntOf,run_underlying Try.underlying23,q2,q4,q7,q8,q9,Try.sizeOf34];exact e1
theorem zA_ (w:World) {o:Oper} {a:Act} {K:Act→World→Prop} {Q:Exit→Act→World→Prop} (s x:Operand)
  (ho:o.op= .call ⟨.builtin .append,#[s,x],#[23,23]⟩) (hty:o.type=23)
  (base:Nat) (v:Value) (n:Nat) (zs:List En) (hs:a.eval s=v) (hown:w.ownsRow base 34 2 v n (zE_ zs))
  (xv:Value) (ys:List En) (hx:a.eval x=xv) (hI:ER w xv ys) (hn:n+ys.length≤2000000) (hbase:base≤w.heap.size)
  (h:∀v' w',w'.ownsRow base 34 2 v' (n+ys.length) (zE_ (zs++ys))→w.grownBy w' v.ownBlock→K (a.put o.dst v') w'):o.wp Try.prog a w K Q:=by
 obtain⟨i0,hi,hz0,hzs,hzb⟩:=info_parts Try.info34;obtain⟨xa,xc,rfl,hc⟩:=hI
 cases xa with
 | none=>
  have hy:ys= []:=by
   by_cases e:ys= []
   ·exact e
   ·obtain⟨b,off,h,_⟩:=hc e;cases h
  subst hy;have hrun:=run_nothing_ent xc hown;unfold Oper.wp;simp [execOp,ho,resolve,invoke,builtin,hs,hx,hty,hrun,Result.andThen];exact (h v w (by simpa using hown) ⟨rfl,rfl,rfl,Nat.le_refl _,fun _ _ _=>rfl⟩)
 | some ad=>
  refine wp_append_own _ s x 23 ho base 34 i0 (.agg #[(0:Int),.string ⟨#[]⟩]) 2 24 Try.underlying23 hi hz0 hzs hzb rfl (by decide) v n (zE_ zs) hs hown ad ys.length xc (zE_ ys) hx (zU_ ys) ?_ ?_ (by unfold maxLen;omega) (by omega) hbase fun v' w' h1 h2 _=>h v' w' (by rw [flat2_append];exact h1) h2
  ·intro j u hj;have hj4:j<ys.length*2:=by rw [←zU_ ys];exact (List.getElem?_eq_some_iff.1 hj).1
   obtain⟨b,off,he,hb,hcell⟩:=hc (by intro e;rw [e] at hj4;simp at hj4);injection he with he;subst he;have ea:∀j,(⟨b,off,none⟩:Addr).add j=⟨b,off+j,none⟩:=fun j=>by simp [Addr.add]
   obtain⟨c0,c1⟩:=hcell (j / 2) (by omega);obtain⟨g0,g1⟩:=flat2_get ys (j / 2) (by omega);obtain hm | hm:j % 2=0∨j % 2=1:=by omega
   ·have e:j=j / 2*2:=by omega
    rw [←e] at g0 c0;rw [g0] at hj;injection hj with hj;rw [←hj,ea];exact c0
   ·have e:j=j / 2*2+1:=by omega
    rw [←e] at g1;rw [g1] at hj;injection hj with hj;rw [←hj,ea,show off+j=off+j / 2*2+1 from by omega];exact c1
  ·intro u hu;obtain⟨j,hj,e⟩:=List.getElem_of_mem hu;rw [zU_] at hj;have hj':(zE_ ys)[j]? =some u:=List.getElem?_eq_some_iff.2 ⟨by rw [zU_];exact hj,e⟩;obtain⟨g0,g1⟩:=flat2_get ys (j / 2) (by omega);obtain hm | hm:j % 2=0∨j % 2=1:=by omega
   ·rw [show j=j / 2*2 from by omega,g0] at hj';injection hj' with hj';rw [←hj'];rfl
   ·rw [show j=j / 2*2+1 from by omega,g1] at hj';injection hj' with hj';rw [←hj'];rfl
theorem specAF_any (id pe te vo co ro:Int) (vl vv vm:Value) (log:List En) (vs mt:List Int) (peer many:Int) (base:Nat) (w:World) (ho:OwnN w base vl vv vm log vs mt) (nl:log.length≤1048576) (nv:vs.length≤1048576) (nm:mt.length≤1048576) (ns:∀i (h:i<log.length),log[i].d.size≤1048576):
  Calls Try.prog 17 #[.agg #[id,pe,te,vo,vl,co,ro,vv,vm],peer,many] w fun e w'=>∃ue,e= .returned (.tuple #[.agg #[.int .i64 (afM (afOk (zk_ id pe te vo co ro log vs mt) id pe ro peer many) id te co peer many log mt).ki,.int .i64 (afM (afOk (zk_ id pe te vo co ro log vs mt) id pe ro peer many) id te co peer many log mt).fr,.int .i64 (afM (afOk (zk_ id pe te vo co ro log vs mt) id pe ro peer many) id te co peer many log mt).dst,.int .i64 (afM (afOk (zk_ id pe te vo co ro log vs mt) id pe ro peer many) id te co peer many log mt).te,.int .i64 (afM (afOk (zk_ id pe te vo co ro log vs mt) id pe ro peer many) id te co peer many log mt).ix,.int .i64 (afM (afOk (zk_ id pe te vo co ro log vs mt) id pe ro peer many) id te co peer many log mt).be,ue,.int .i64 (afM (afOk (zk_ id pe te vo co ro log vs mt) id pe ro peer many) id te co peer many log mt).co,.bool (afM (afOk (zk_ id pe te vo co ro log vs mt) id pe ro peer many) id te co peer many log mt).ye],.bool (afOk (zk_ id pe te vo co ro log vs mt) id pe ro peer many)])∧w'.ownsRow w.heap.size 34 2 ue (afM (afOk (zk_ id pe te vo co ro log vs mt) id pe ro peer many) id te co peer many log mt).es.length (zE_ (afM (afOk (zk_ id pe te vo co ro log vs mt) id pe ro peer many) id te co peer many log mt).es)∧Below w.heap.size w w':=by
 obtain⟨W0,hW0,hB,X,Y,hz00⟩:=al2 w [id,pe,te,vo,vl,co,ro,vv,vm] 26 zM 38;have ho0:=ho.below hB;have K:=zt_ id pe te vo co ro vl vv vm log vs mt _ ho0.er ho0.iv ho0.im nl nv nm ns;have E1:=fun W (h:Below w.heap.size w W)=>(ho.below h).er;have E2:=fun W (h:Below w.heap.size w W)=>(ho.below h).iv;have E3:=fun W (h:Below w.heap.size w W)=>(ho.below h).im;have N1:=ho.nns.1;have HG:zk_ id pe te vo co ro log vs mt=true→ro=2→0≤id∧id<pe∧(mt.length:Int)=pe:=fun h h2=>by rw [h2] at h;exact goodN_lead h
 have HT:zk_ id pe te vo co ro log vs mt=true→ro=2→∀i (hi:i<mt.length),0≤mt[i]∧mt[i]≤(log.length:Int):=fun h h2=>by rw [h2] at h;exact goodN_mt h
 have HP:zk_ id pe te vo co ro log vs mt=true→1≤pe∧pe≤7:=fun h=>by rw [zK_] at h;simp [inB] at h;omega
 generalize zk_ id pe te vo co ro log vs mt=g at*;obtain⟨⟨la,lc,rfl⟩,⟨va,vc,rfl⟩,ma,mc,rfl⟩:=ho.shapes;have hcap:=(owns_cap ho.l).1;clear ns ho0 ho;have hok:(afOk g id pe ro peer many=true∧g=true∧ro=2∧isP peer pe=true∧¬peer=id∧0≤many∧many≤60)∨(afOk g id pe ro peer many=false∧(g=false∨(g=true∧(¬ro=2∨(ro=2∧(isP peer pe=false∨(isP peer pe=true∧(peer=id∨(¬peer=id∧(many<0∨(0≤many∧60<many))))))))))):=by
  unfold afOk;generalize isP peer pe=b
  cases g
  ·exact .inr ⟨rfl,.inl rfl⟩
  ·by_cases h1:ro=2
   ·cases b
    ·exact .inr ⟨by simp,.inr ⟨rfl,.inr ⟨h1,.inl rfl⟩⟩⟩
    ·by_cases h2:peer=id
     ·exact .inr ⟨by simp [h2],.inr ⟨rfl,.inr ⟨h1,.inr ⟨rfl,.inl h2⟩⟩⟩⟩
     ·by_cases h3:0≤many
      ·by_cases h4:many≤60
       ·exact .inl ⟨by simp [h1,h2,h3,h4],rfl,h1,rfl,h2,h3,h4⟩
       ·exact .inr ⟨by simp [h1,h2];omega,.inr ⟨rfl,.inr ⟨h1,.inr ⟨rfl,.inr ⟨h2,.inr ⟨h3,by omega⟩⟩⟩⟩⟩⟩
      ·exact .inr ⟨by simp [h1,h2];omega,.inr ⟨rfl,.inr ⟨h1,.inr ⟨rfl,.inr ⟨h2,.inl (by omega)⟩⟩⟩⟩⟩
   ·exact .inr ⟨by simp [h1],.inr ⟨rfl,.inl h1⟩⟩
 have KP:∀W,Calls Try.prog 68 #[peer,(0:Int),(pe-1:Int)] W fun e w'=>e= .returned (.bool (isP peer pe))∧w'=W:=fun W=>by rw [←isP_inB];exact zs_ peer 0 (pe-1) W
 have KQ:=fun W=>zs_ many 0 60 W;rcases hok with⟨he,rfl,rfl,hp,hne,hm0,hm1⟩ | ⟨he,hcs⟩;rotate_left
 ·rw [he];show Calls Try.prog 17 _ w fun e w'=>∃ue,e= .returned (.tuple #[.agg #[(0:Int),(0:Int),(0:Int),(0:Int),(0:Int),(0:Int),ue,(0:Int),false],false])∧w'.ownsRow w.heap.size 34 2 ue 0 (zE_ [])∧Below w.heap.size w w';clear he HG HT E1 E2 E3 N1;generalize isP peer pe=bp at*;generalize hbq:inB many 0 60=bq at*;go_enter Try.func17,Try.ntmps17;go_wp2_with fail;rw [←hW0];clear hW0;refine K.mono ?_;rintro e w1 ⟨rfl,hb⟩;replace hB:=za_ hB hb;replace Y:=Y.below hb;replace X:=X.below hb;clear K hb;have hC:=zo_ w1 (w.heap.size+1) (0:Int) (0:Int) (0:Int) (0:Int) (0:Int) (0:Int) () (0:Int) false;have Z:=zp_ Y (0:Int) (0:Int) (0:Int) (0:Int) (0:Int) (0:Int) () (0:Int) false;have hBE:=hB.trans (hC.b1 hB.size (by omega));obtain⟨hxl,x0,x1,x2,x3,x4,x5,x6,x7,x8⟩:=X.e9;obtain⟨hyl,y0,y1,y2,y3,y4,y5,y6,y7,y8⟩:=Y.e9;obtain⟨f0,f1,f2,f3,f4,f5,f6,f7,f8⟩:=Y.f9;obtain⟨hzl,t0,t1,t2,t3,t4,t5,t6,t7,t8⟩:=Z.e9;clear Z hC hB Y X;unfold put9 at*;rcases hcs with rfl | ⟨rfl,hcs⟩
  ·clear KP KQ HP;go_wp2;exact bodyPost_ret (v:= .tuple #[.agg zM,false]) (by simp [results,Try.results17,go_sem,t0,t1,t2,t3,t4,t5,t6,t7,t8]) rfl ⟨_,rfl,World.ownsRow_nil _ _ _ _,hBE⟩
  obtain⟨p1,p7⟩:=HP rfl;clear HP;rcases hcs with h1 | ⟨rfl,hcs⟩
  ·have h1b:(ro !=2)=true:=by simp [h1]
   clear KP KQ;go_wp2;exact bodyPost_ret (v:= .tuple #[.agg zM,false]) (by simp [results,Try.results17,go_sem,t0,t1,t2,t3,t4,t5,t6,t7,t8]) rfl ⟨_,rfl,World.ownsRow_nil _ _ _ _,hBE⟩
  go_wp2_with fail;refine (KP _).mono ?_;rintro e w2 ⟨rfl,hw⟩;subst hw;clear KP;rcases hcs with rfl | ⟨rfl,hcs⟩
  ·clear KQ;go_wp2;exact bodyPost_ret (v:= .tuple #[.agg zM,false]) (by simp [results,Try.results17,go_sem,t0,t1,t2,t3,t4,t5,t6,t7,t8]) rfl ⟨_,rfl,World.ownsRow_nil _ _ _ _,hBE⟩
  rcases hcs with rfl | ⟨h2,hcs⟩
  ·clear KQ;go_wp2;exact bodyPost_ret (v:= .tuple #[.agg zM,false]) (by simp [results,Try.results17,go_sem,t0,t1,t2,t3,t4,t5,t6,t7,t8]) rfl ⟨_,rfl,World.ownsRow_nil _ _ _ _,hBE⟩
  have h2b:(peer==id)=false:=by simp [h2]
  obtain rfl:bq=false:=by rw [←hbq];simp [inB];omega
  clear hbq;go_wp2_with fail;refine (KQ _).mono ?_;rintro e w2 ⟨rfl,hw⟩;subst hw;clear KQ;go_wp2;exact bodyPost_ret (v:= .tuple #[.agg zM,false]) (by simp [results,Try.results17,go_sem,t0,t1,t2,t3,t4,t5,t6,t7,t8]) rfl ⟨_,rfl,World.ownsRow_nil _ _ _ _,hBE⟩
 obtain⟨i0,i1,hmp⟩:=HG rfl rfl;obtain⟨p1,p7⟩:=HP rfl;have hpp:0≤peer∧peer<pe:=by simp [isP] at hp;omega
 obtain⟨p,rfl⟩:=Int.eq_ofNat_of_zero_le hpp.1;have hpl:p<mt.length:=by omega
 obtain⟨a0,a1⟩:=HT rfl rfl p hpl;obtain⟨m,rfl⟩:=Int.eq_ofNat_of_zero_le hm0;rw [he];have hgd:mt.getD p 0=mt[p]:=ya_ mt p hpl;show Calls Try.prog 17 _ w fun e w'=>∃ue,e= .returned (.tuple #[.agg #[(3:Int),id,p,te,(mt.getD p 0:Int),(tmAt log (mt.getD p 0).toNat:Int),ue,co,false],true])∧w'.ownsRow w.heap.size 34 2 ue (afE log (mt.getD p 0).toNat m).length (zE_ (afE log (mt.getD p 0).toNat m))∧Below w.heap.size w w';rw [hgd];obtain⟨a,ha⟩:=Int.eq_ofNat_of_zero_le a0;have hx:=E3 _ hB;obtain⟨ma2,mc2,hme,hmc⟩:=hx;simp only [Value.slice.injEq,true_and] at hme;obtain⟨rfl,rfl⟩:=hme;obtain⟨bm,om,rfl,hbm,hcm⟩:=hmc (by intro e;rw [e] at hpl;simp at hpl);have hcp:=hcm p hpl;rw [ha] at a1 hcp ⊢;rw [Int.toNat_natCast];have hal:a≤log.length:=by omega
 rw [show isP (p:Int) pe=true from by simp [isP];omega] at KP;rw [show inB (m:Int) 0 60=true from by simp [inB];omega] at KQ;clear hcm hmc ha a0 hgd he HG HT HP hp hmp;have KT:=fun W (h:Below w.heap.size w W)=>l11Term_any id pe te vo co 2 _ _ _ log vs mt a W (E1 W h) (E2 W h) (E3 W h) hal nl;obtain⟨n,hn⟩:∃n,n=min m (log.length-a):=⟨_,rfl⟩;obtain⟨L,HL⟩:∃L,Hid (afE log a m=L):=⟨afE log a m,rfl⟩;have hLe:L=(log.drop a).take n:=by rw [←HL.out,hn];rfl
 have hLl:L.length=n:=by rw [hLe,List.length_take,List.length_drop];omega
 obtain⟨a2,HSM,_⟩:=sl_mid W0 la lc a n log (E1 W0 hB) hcap (by omega);have HE2:∀W,Below w.heap.size w W→ER W (.slice a2 n (lc-a)) L:=fun W h=>by
  obtain⟨a3,h3,h4⟩:=sl_mid W la lc a n log (E1 W h) hcap (by omega);have e1:=HSM W;have e2:=h3 W;rw [e1] at e2;simp only [Result.ok.injEq,Value.slice.injEq,and_true] at e2;subst e2;rw [hLe];exact h4
 obtain⟨tb,HTB⟩:∃tb:Int,Hid (tmAt log a=tb):=⟨tmAt log a,rfl⟩;rw [HTB.out] at KT;have hneb:((p:Int)==id)=false:=by simp [hne]
 have hL2:L.length≤1048576:=by omega
 obtain⟨en,hen⟩:∃en:Int,en=(a:Int)+(n:Int):=⟨_,rfl⟩;rw [←hen] at HSM;have hcs:(m≤log.length-a∧en=(a:Int)+(m:Int))∨(log.length-a<m∧en=(log.length:Int)):=by omega
 clear E1 E2 E3 N1 hLe hLl hn hcap hne i0 i1 hpp hm0 hen;go_enter Try.func17,Try.ntmps17;go_wp2_with fail;rw [←hW0];clear hW0;refine K.mono ?_;rintro e w1 ⟨rfl,hb⟩;replace hB:=za_ hB hb;replace Y:=Y.below hb;replace X:=X.below hb;replace hcp:=(hb.cell (p:=⟨bm,om+p,none⟩) hbm).trans hcp;have hz1:=hb.size;have hbm1:bm<w1.heap.size:=by omega
 clear K hb;obtain⟨hxl,x0,x1,x2,x3,x4,x5,x6,x7,x8⟩:=X.e9;go_wp2_with fail;refine (KP _).mono ?_;rintro e w6 ⟨rfl,hw⟩;subst hw;clear KP;go_wp2_with fail;refine (KQ _).mono ?_;rintro e w5 ⟨rfl,hw⟩;subst hw;clear KQ;have hz00':w.heap.size+1+1≤w5.heap.size:=by omega
 rcases hcs with⟨h1,rfl⟩ | ⟨h1,rfl⟩
 ·have h1b:¬(log.length:Int)<(a:Int)+(m:Int):=by omega
  go_wp2_with fail;have hD:Below w5.heap.size w5 w5.drew:=(Below.refl _ _).drew;replace X:=X.below hD;replace Y:=Y.below hD;replace hB:=za_ hB hD;have hzc:=hD.size;clear hD hcp hxl x0 x1 x2 x3 x4 x5 x6 x7 x8;refine wp_region_held_drew (S:=fun w'=>Box w' w.heap.size [id,pe,te,vo,.slice la log.length lc,co,(2:Int),.slice va vs.length vc,.slice (some ⟨bm,om,none⟩) mt.length mc]) (by kernel_rfl) X (fun zb_=> ?_);obtain⟨cur,hcur⟩:∃cur,cur=w5.drew:=⟨_,rfl⟩;rw [←hcur] at X Y hB hzc ⊢;clear hcur;refine tkH 0 (.pointer (some ⟨w.heap.size,0,none⟩)) rfl ?_ ?_
  ·intro wx hSw;clear hSw zb_;go_simp
  simp only [Act.put,sA_,sB_,sC_];refine tkH 1 (.int .i64 id) rfl ?_ ?_
  ·intro wx hSw;have e:=hSw.2.1 0 _ rfl;clear zb_;go_simp
  simp only [Act.put,sA_,sB_,sC_];refine tkH 2 (.int .i64 p) rfl ?_ ?_
  ·intro wx hSw;clear hSw zb_;go_simp
  simp only [Act.put,sA_,sB_,sC_];refine tkH 3 (.pointer (some ⟨w.heap.size,2,none⟩)) rfl ?_ ?_
  ·intro wx hSw;clear hSw zb_;go_simp
  simp only [Act.put,sA_,sB_,sC_];refine tkH 4 (.int .i64 te) rfl ?_ ?_
  ·intro wx hSw;have e:=hSw.2.1 2 _ rfl;clear zb_;go_simp
  simp only [Act.put,sA_,sB_,sC_];refine tkH 5 (.int .i64 a) rfl ?_ ?_
  ·intro wx hSw;clear hSw zb_;go_simp
  simp only [Act.put,sA_,sB_,sC_];refine tkH 6 (.agg #[id,pe,te,vo,.slice la log.length lc,co,(2:Int),.slice va vs.length vc,.slice (some ⟨bm,om,none⟩) mt.length mc]) rfl ?_ ?_
  ·intro wx hSw;have e0:=hSw.2.1 0 _ rfl;have e1:=hSw.2.1 1 _ rfl;have e2:=hSw.2.1 2 _ rfl;have e3:=hSw.2.1 3 _ rfl;have e4:=hSw.2.1 4 _ rfl;have e5:=hSw.2.1 5 _ rfl;have e6:=hSw.2.1 6 _ rfl;have e7:=hSw.2.1 7 _ rfl;have e8:=hSw.2.1 8 _ rfl;clear zb_;go_simp
  simp only [Act.put,sA_,sB_,sC_];refine tkH 7 (.int .i64 a) rfl ?_ ?_
  ·intro wx hSw;clear hSw zb_;go_simp
  simp only [Act.put,sA_,sB_,sC_];refine tkH 10 (.pointer (some ⟨w.heap.size,4,none⟩)) rfl ?_ ?_
  ·intro wx hSw;clear hSw zb_;go_simp
  simp only [Act.put,sA_,sB_,sC_];refine tkH 11 (.slice la log.length lc) rfl ?_ ?_
  ·intro wx hSw;have e:=hSw.2.1 4 _ rfl;clear zb_;go_simp
  simp only [Act.put,sA_,sB_,sC_];refine tkH 12 (.int .i64 a) rfl ?_ ?_
  ·intro wx hSw;clear hSw zb_;go_simp
  simp only [Act.put,sA_,sB_,sC_];refine tkH 13 (.int .i64 ((a:Int)+(m:Int))) rfl ?_ ?_
  ·intro wx hSw;clear hSw zb_;go_simp
  simp only [Act.put,sA_,sB_,sC_];refine tkH 14 (.slice a2 n (lc-a)) rfl ?_ ?_
  ·intro wx hSw;have e:=HSM wx;clear hSw zb_;go_simp
  simp only [Act.put,sA_,sB_,sC_];refine tkH 16 (.pointer (some ⟨w.heap.size,5,none⟩)) rfl ?_ ?_
  ·intro wx hSw;clear hSw zb_;go_simp
  simp only [Act.put,sA_,sB_,sC_];refine tkH 17 (.int .i64 co) rfl ?_ ?_
  ·intro wx hSw;have e:=hSw.2.1 5 _ rfl;clear zb_;go_simp
  simp only [Act.put,sA_,sB_,sC_];refine rd2 8 9 rfl rfl (fun K hK=> ?_) (fun K hK=> ?_)
  ·clear zb_;go_simp;refine (KT _ hB).mono ?_;rintro e nw ⟨rfl,hb⟩;replace X:=X.below hb;replace Y:=Y.below hb;replace hB:=za_ hB hb;replace hzc:=Nat.le_trans hzc hb.size;clear hb;refine hK.out _ _ X (fun zb_=> ?_);clear hK K;generalize nw=cur at*;refine rd1 9 rfl (fun K hK=> ?_);clear zb_;have O0:(cur.alloc (.cells #[] 34)).ownsRow cur.heap.size 34 2 (.slice (some ⟨cur.heap.size,0,none⟩) 0 0) 0 (zE_ []):=World.ownsRow_lit cur #[] 0 (Nat.le_refl _) (by simp [maxLen]) (by simp);have hb:=zc_ cur (.cells #[] 34);replace X:=X.below hb;replace Y:=Y.below hb;have hzz:=hB.size;have hzq:w5.heap.size≤cur.heap.size:=hzc;replace hB:=za_ hB hb;clear hb;go_simp;refine hK.out _ _ X (fun zb_=> ?_);clear hK K;replace O0:=zg_ O0 hzq;replace hzc:w5.heap.size≤(cur.alloc (.cells #[] 34)).heap.size:=by simp;omega
   generalize cur.heap.size=gb at*;generalize cur.alloc (.cells #[] 34)=cur at*;clear hzq hzz;refine rd1 15 rfl (fun K hK=> ?_);clear zb_;have hE:=HE2 _ hB;refine zA_ _ _ _ rfl rfl w5.heap.size _ 0 [] rfl O0 _ L rfl hE (by omega) hzc ?_;intro u nw O hgr;simp only [Nat.zero_add,List.nil_append] at O;have gl:=ze_ O0;have hb4:Below (w.heap.size+1+1) cur nw:=(Below.refl _ _).grown hgr (by omega) (fun k hk=>by have:=gl k hk;omega);replace X:=X.under hb4 (by omega);replace Y:=Y.under hb4 (by omega);replace hB:=hB.trans (hb4.mono (by omega));replace hzc:w5.heap.size≤nw.heap.size:=Nat.le_trans hzc hb4.size;obtain⟨ua,uc,rfl⟩:=zf_ O;clear O0 hE hgr gl hb4;refine hK.out _ _ X (fun zb_=> ?_);clear hK K;generalize nw=cur at*;refine tkH 18 (.agg #[(3:Int),id,p,te,a,tb,.slice ua L.length uc,co,false]) rfl ?_ ?_
   ·intro wx hSw;clear hSw zb_;go_simp
   simp only [Act.put,sA_,sB_,sC_];refine rd1 19 rfl (fun K hK=> ?_);clear zb_;have hC:=zo_ cur (w.heap.size+1) (.int .i64 3) id p te a tb (.slice ua L.length uc) co false;have Z:=zp_ Y (.int .i64 3) id p te a tb (.slice ua L.length uc) co false;have X8:=hC.box X (by omega);have O8:=hC.owns (zg_ O (show w.heap.size≤w5.heap.size from by omega)) (fun b hb hh=>by have:=ze_ O b hb;have hh:b=w.heap.size+1:=hh;omega);have hBE:=hB.trans (hC.b1 hB.size (by omega));obtain⟨hyl,y0,y1,y2,y3,y4,y5,y6,y7,y8⟩:=Y.e9;obtain⟨f0,f1,f2,f3,f4,f5,f6,f7,f8⟩:=Y.f9;clear hC X Y hB O;obtain⟨WZ,hWZ⟩:∃WZ,WZ=put9 cur (w.heap.size+1) (.int .i64 3) (.int .i64 id) (.int .i64 p) (.int .i64 te) (.int .i64 a) (.int .i64 tb) (.slice ua L.length uc) (.int .i64 co) (.bool false):=⟨_,rfl⟩;rw [←hWZ] at Z X8 O8 hBE;unfold put9 at hWZ;go_simp;rw [←hWZ];refine hK.out _ _ X8 (fun zb_=> ?_);clear hK K hWZ hyl y0 y1 y2 y3 y4 y5 y6 y7 y8 f0 f1 f2 f3 f4 f5 f6 f7 f8;refine tkH 20 (.bool true) rfl ?_ ?_
   ·intro wx hSw;clear hSw zb_;go_simp
   simp only [Act.put,sA_,sB_,sC_];clear zb_;refine wpAnyH_done (by kernel_rfl) ?_ _;obtain⟨hzl,t0,t1,t2,t3,t4,t5,t6,t7,t8⟩:=Z.e9;clear Z X8;go_wp2;exact bodyPost_ret (v:= .tuple #[.agg #[(3:Int),id,p,te,a,tb,.slice ua L.length uc,co,false],true]) (by simp [results,Try.results17,go_sem,t0,t1,t2,t3,t4,t5,t6,t7,t8]) rfl ⟨_,by rw [HTB.out],by rw [HL.out];exact O8,hBE⟩
  ·clear zb_;have O0:(cur.alloc (.cells #[] 34)).ownsRow cur.heap.size 34 2 (.slice (some ⟨cur.heap.size,0,none⟩) 0 0) 0 (zE_ []):=World.ownsRow_lit cur #[] 0 (Nat.le_refl _) (by simp [maxLen]) (by simp);have hb:=zc_ cur (.cells #[] 34);replace X:=X.below hb;replace Y:=Y.below hb;have hzz:=hB.size;have hzq:w5.heap.size≤cur.heap.size:=hzc;replace hB:=za_ hB hb;clear hb;go_simp;refine hK.out _ _ X (fun zb_=> ?_);clear hK K;replace O0:=zg_ O0 hzq;replace hzc:w5.heap.size≤(cur.alloc (.cells #[] 34)).heap.size:=by simp;omega
   generalize cur.heap.size=gb at*;generalize cur.alloc (.cells #[] 34)=cur at*;clear hzq hzz;refine rd1 8 rfl (fun K hK=> ?_);clear zb_;go_simp;refine (KT _ hB).mono ?_;rintro e nw ⟨rfl,hb⟩;replace X:=X.below hb;replace Y:=Y.below hb;replace hB:=za_ hB hb;replace hzc:=Nat.le_trans hzc hb.size;replace O0:=zd_ O0 hb;clear hb;refine hK.out _ _ X (fun zb_=> ?_);clear hK K;generalize nw=cur at*;refine rd1 15 rfl (fun K hK=> ?_);clear zb_;have hE:=HE2 _ hB;refine zA_ _ _ _ rfl rfl w5.heap.size _ 0 [] rfl O0 _ L rfl hE (by omega) hzc ?_;intro u nw O hgr;simp only [Nat.zero_add,List.nil_append] at O;have gl:=ze_ O0;have hb4:Below (w.heap.size+1+1) cur nw:=(Below.refl _ _).grown hgr (by omega) (fun k hk=>by have:=gl k hk;omega);replace X:=X.under hb4 (by omega);replace Y:=Y.under hb4 (by omega);replace hB:=hB.trans (hb4.mono (by omega));replace hzc:w5.heap.size≤nw.heap.size:=Nat.le_trans hzc hb4.size;obtain⟨ua,uc,rfl⟩:=zf_ O;clear O0 hE hgr gl hb4;refine hK.out _ _ X (fun zb_=> ?_);clear hK K;generalize nw=cur at*;refine tkH 18 (.agg #[(3:Int),id,p,te,a,tb,.slice ua L.length uc,co,false]) rfl ?_ ?_
   ·intro wx hSw;clear hSw zb_;go_simp
   simp only [Act.put,sA_,sB_,sC_];refine rd1 19 rfl (fun K hK=> ?_);clear zb_;have hC:=zo_ cur (w.heap.size+1) (.int .i64 3) id p te a tb (.slice ua L.length uc) co false;have Z:=zp_ Y (.int .i64 3) id p te a tb (.slice ua L.length uc) co false;have X8:=hC.box X (by omega);have O8:=hC.owns (zg_ O (show w.heap.size≤w5.heap.size from by omega)) (fun b hb hh=>by have:=ze_ O b hb;have hh:b=w.heap.size+1:=hh;omega);have hBE:=hB.trans (hC.b1 hB.size (by omega));obtain⟨hyl,y0,y1,y2,y3,y4,y5,y6,y7,y8⟩:=Y.e9;obtain⟨f0,f1,f2,f3,f4,f5,f6,f7,f8⟩:=Y.f9;clear hC X Y hB O;obtain⟨WZ,hWZ⟩:∃WZ,WZ=put9 cur (w.heap.size+1) (.int .i64 3) (.int .i64 id) (.int .i64 p) (.int .i64 te) (.int .i64 a) (.int .i64 tb) (.slice ua L.length uc) (.int .i64 co) (.bool false):=⟨_,rfl⟩;rw [←hWZ] at Z X8 O8 hBE;unfold put9 at hWZ;go_simp;rw [←hWZ];refine hK.out _ _ X8 (fun zb_=> ?_);clear hK K hWZ hyl y0 y1 y2 y3 y4 y5 y6 y7 y8 f0 f1 f2 f3 f4 f5 f6 f7 f8;refine tkH 20 (.bool true) rfl ?_ ?_
   ·intro wx hSw;clear hSw zb_;go_simp
   simp only [Act.put,sA_,sB_,sC_];clear zb_;refine wpAnyH_done (by kernel_rfl) ?_ _;obtain⟨hzl,t0,t1,t2,t3,t4,t5,t6,t7,t8⟩:=Z.e9;clear Z X8;go_wp2;exact bodyPost_ret (v:= .tuple #[.agg #[(3:Int),id,p,te,a,tb,.slice ua L.length uc,co,false],true]) (by simp [results,Try.results17,go_sem,t0,t1,t2,t3,t4,t5,t6,t7,t8]) rfl ⟨_,by rw [HTB.out],by rw [HL.out];exact O8,hBE⟩
 ·have h1b:(log.length:Int)<(a:Int)+(m:Int):=by omega
  go_wp2_with fail;have hD:Below w5.heap.size w5 w5.drew:=(Below.refl _ _).drew;replace X:=X.below hD;replace Y:=Y.below hD;replace hB:=za_ hB hD;have hzc:=hD.size;clear hD hcp hxl x0 x1 x2 x3 x4 x5 x6 x7 x8;refine wp_region_held_drew (S:=fun w'=>Box w' w.heap.size [id,pe,te,vo,.slice la log.length lc,co,(2:Int),.slice va vs.length vc,.slice (some ⟨bm,om,none⟩) mt.length mc]) (by kernel_rfl) X (fun zb_=> ?_);obtain⟨cur,hcur⟩:∃cur,cur=w5.drew:=⟨_,rfl⟩;rw [←hcur] at X Y hB hzc ⊢;clear hcur;refine tkH 0 (.pointer (some ⟨w.heap.size,0,none⟩)) rfl ?_ ?_
  ·intro wx hSw;clear hSw zb_;go_simp
  simp only [Act.put,sA_,sB_,sC_];refine tkH 1 (.int .i64 id) rfl ?_ ?_
  ·intro wx hSw;have e:=hSw.2.1 0 _ rfl;clear zb_;go_simp
  simp only [Act.put,sA_,sB_,sC_];refine tkH 2 (.int .i64 p) rfl ?_ ?_
  ·intro wx hSw;clear hSw zb_;go_simp
  simp only [Act.put,sA_,sB_,sC_];refine tkH 3 (.pointer (some ⟨w.heap.size,2,none⟩)) rfl ?_ ?_
  ·intro wx hSw;clear hSw zb_;go_simp
  simp only [Act.put,sA_,sB_,sC_];refine tkH 4 (.int .i64 te) rfl ?_ ?_
  ·intro wx hSw;have e:=hSw.2.1 2 _ rfl;clear zb_;go_simp
  simp only [Act.put,sA_,sB_,sC_];refine tkH 5 (.int .i64 a) rfl ?_ ?_
  ·intro wx hSw;clear hSw zb_;go_simp
  simp only [Act.put,sA_,sB_,sC_];refine tkH 6 (.agg #[id,pe,te,vo,.slice la log.length lc,co,(2:Int),.slice va vs.length vc,.slice (some ⟨bm,om,none⟩) mt.length mc]) rfl ?_ ?_
  ·intro wx hSw;have e0:=hSw.2.1 0 _ rfl;have e1:=hSw.2.1 1 _ rfl;have e2:=hSw.2.1 2 _ rfl;have e3:=hSw.2.1 3 _ rfl;have e4:=hSw.2.1 4 _ rfl;have e5:=hSw.2.1 5 _ rfl;have e6:=hSw.2.1 6 _ rfl;have e7:=hSw.2.1 7 _ rfl;have e8:=hSw.2.1 8 _ rfl;clear zb_;go_simp
  simp only [Act.put,sA_,sB_,sC_];refine tkH 7 (.int .i64 a) rfl ?_ ?_
  ·intro wx hSw;clear hSw zb_;go_simp
  simp only [Act.put,sA_,sB_,sC_];refine tkH 10 (.pointer (some ⟨w.heap.size,4,none⟩)) rfl ?_ ?_
  ·intro wx hSw;clear hSw zb_;go_simp
  simp only [Act.put,sA_,sB_,sC_];refine tkH 11 (.slice la log.length lc) rfl ?_ ?_
  ·intro wx hSw;have e:=hSw.2.1 4 _ rfl;clear zb_;go_simp
  simp only [Act.put,sA_,sB_,sC_];refine tkH 12 (.int .i64 a) rfl ?_ ?_
  ·intro wx hSw;clear hSw zb_;go_simp
  simp only [Act.put,sA_,sB_,sC_];refine tkH 13 (.int .i64 (log.length:Int)) rfl ?_ ?_
  ·intro wx hSw;clear hSw zb_;go_simp
  simp only [Act.put,sA_,sB_,sC_];refine tkH 14 (.slice a2 n (lc-a)) rfl ?_ ?_
  ·intro wx hSw;have e:=HSM wx;clear hSw zb_;go_simp
  simp only [Act.put,sA_,sB_,sC_];refine tkH 16 (.pointer (some ⟨w.heap.size,5,none⟩)) rfl ?_ ?_
  ·intro wx hSw;clear hSw zb_;go_simp
  simp only [Act.put,sA_,sB_,sC_];refine tkH 17 (.int .i64 co) rfl ?_ ?_
  ·intro wx hSw;have e:=hSw.2.1 5 _ rfl;clear zb_;go_simp
  simp only [Act.put,sA_,sB_,sC_];refine rd2 8 9 rfl rfl (fun K hK=> ?_) (fun K hK=> ?_)
  ·clear zb_;go_simp;refine (KT _ hB).mono ?_;rintro e nw ⟨rfl,hb⟩;replace X:=X.below hb;replace Y:=Y.below hb;replace hB:=za_ hB hb;replace hzc:=Nat.le_trans hzc hb.size;clear hb;refine hK.out _ _ X (fun zb_=> ?_);clear hK K;generalize nw=cur at*;refine rd1 9 rfl (fun K hK=> ?_);clear zb_;have O0:(cur.alloc (.cells #[] 34)).ownsRow cur.heap.size 34 2 (.slice (some ⟨cur.heap.size,0,none⟩) 0 0) 0 (zE_ []):=World.ownsRow_lit cur #[] 0 (Nat.le_refl _) (by simp [maxLen]) (by simp);have hb:=zc_ cur (.cells #[] 34);replace X:=X.below hb;replace Y:=Y.below hb;have hzz:=hB.size;have hzq:w5.heap.size≤cur.heap.size:=hzc;replace hB:=za_ hB hb;clear hb;go_simp;refine hK.out _ _ X (fun zb_=> ?_);clear hK K;replace O0:=zg_ O0 hzq;replace hzc:w5.heap.size≤(cur.alloc (.cells #[] 34)).heap.size:=by simp;omega
   generalize cur.heap.size=gb at*;generalize cur.alloc (.cells #[] 34)=cur at*;clear hzq hzz;refine rd1 15 rfl (fun K hK=> ?_);clear zb_;have hE:=HE2 _ hB;refine zA_ _ _ _ rfl rfl w5.heap.size _ 0 [] rfl O0 _ L rfl hE (by omega) hzc ?_;intro u nw O hgr;simp only [Nat.zero_add,List.nil_append] at O;have gl:=ze_ O0;have hb4:Below (w.heap.size+1+1) cur nw:=(Below.refl _ _).grown hgr (by omega) (fun k hk=>by have:=gl k hk;omega);replace X:=X.under hb4 (by omega);replace Y:=Y.under hb4 (by omega);replace hB:=hB.trans (hb4.mono (by omega));replace hzc:w5.heap.size≤nw.heap.size:=Nat.le_trans hzc hb4.size;obtain⟨ua,uc,rfl⟩:=zf_ O;clear O0 hE hgr gl hb4;refine hK.out _ _ X (fun zb_=> ?_);clear hK K;generalize nw=cur at*;refine tkH 18 (.agg #[(3:Int),id,p,te,a,tb,.slice ua L.length uc,co,false]) rfl ?_ ?_
   ·intro wx hSw;clear hSw zb_;go_simp
   simp only [Act.put,sA_,sB_,sC_];refine rd1 19 rfl (fun K hK=> ?_);clear zb_;have hC:=zo_ cur (w.heap.size+1) (.int .i64 3) id p te a tb (.slice ua L.length uc) co false;have Z:=zp_ Y (.int .i64 3) id p te a tb (.slice ua L.length uc) co false;have X8:=hC.box X (by omega);have O8:=hC.owns (zg_ O (show w.heap.size≤w5.heap.size from by omega)) (fun b hb hh=>by have:=ze_ O b hb;have hh:b=w.heap.size+1:=hh;omega);have hBE:=hB.trans (hC.b1 hB.size (by omega));obtain⟨hyl,y0,y1,y2,y3,y4,y5,y6,y7,y8⟩:=Y.e9;obtain⟨f0,f1,f2,f3,f4,f5,f6,f7,f8⟩:=Y.f9;clear hC X Y hB O;obtain⟨WZ,hWZ⟩:∃WZ,WZ=put9 cur (w.heap.size+1) (.int .i64 3) (.int .i64 id) (.int .i64 p) (.int .i64 te) (.int .i64 a) (.int .i64 tb) (.slice ua L.length uc) (.int .i64 co) (.bool false):=⟨_,rfl⟩;rw [←hWZ] at Z X8 O8 hBE;unfold put9 at hWZ;go_simp;rw [←hWZ];refine hK.out _ _ X8 (fun zb_=> ?_);clear hK K hWZ hyl y0 y1 y2 y3 y4 y5 y6 y7 y8 f0 f1 f2 f3 f4 f5 f6 f7 f8;refine tkH 20 (.bool true) rfl ?_ ?_
   ·intro wx hSw;clear hSw zb_;go_simp
   simp only [Act.put,sA_,sB_,sC_];clear zb_;refine wpAnyH_done (by kernel_rfl) ?_ _;obtain⟨hzl,t0,t1,t2,t3,t4,t5,t6,t7,t8⟩:=Z.e9;clear Z X8;go_wp2;exact bodyPost_ret (v:= .tuple #[.agg #[(3:Int),id,p,te,a,tb,.slice ua L.length uc,co,false],true]) (by simp [results,Try.results17,go_sem,t0,t1,t2,t3,t4,t5,t6,t7,t8]) rfl ⟨_,by rw [HTB.out],by rw [HL.out];exact O8,hBE⟩
  ·clear zb_;have O0:(cur.alloc (.cells #[] 34)).ownsRow cur.heap.size 34 2 (.slice (some ⟨cur.heap.size,0,none⟩) 0 0) 0 (zE_ []):=World.ownsRow_lit cur #[] 0 (Nat.le_refl _) (by simp [maxLen]) (by simp);have hb:=zc_ cur (.cells #[] 34);replace X:=X.below hb;replace Y:=Y.below hb;have hzz:=hB.size;have hzq:w5.heap.size≤cur.heap.size:=hzc;replace hB:=za_ hB hb;clear hb;go_simp;refine hK.out _ _ X (fun zb_=> ?_);clear hK K;replace O0:=zg_ O0 hzq;replace hzc:w5.heap.size≤(cur.alloc (.cells #[] 34)).heap.size:=by simp;omega
   generalize cur.heap.size=gb at*;generalize cur.alloc (.cells #[] 34)=cur at*;clear hzq hzz;refine rd1 8 rfl (fun K hK=> ?_);clear zb_;go_simp;refine (KT _ hB).mono ?_;rintro e nw ⟨rfl,hb⟩;replace X:=X.below hb;replace Y:=Y.below hb;replace hB:=za_ hB hb;replace hzc:=Nat.le_trans hzc hb.size;replace O0:=zd_ O0 hb;clear hb;refine hK.out _ _ X (fun zb_=> ?_);clear hK K;generalize nw=cur at*;refine rd1 15 rfl (fun K hK=> ?_);clear zb_;have hE:=HE2 _ hB;refine zA_ _ _ _ rfl rfl w5.heap.size _ 0 [] rfl O0 _ L rfl hE (by omega) hzc ?_;intro u nw O hgr;simp only [Nat.zero_add,List.nil_append] at O;have gl:=ze_ O0;have hb4:Below (w.heap.size+1+1) cur nw:=(Below.refl _ _).grown hgr (by omega) (fun k hk=>by have:=gl k hk;omega);replace X:=X.under hb4 (by omega);replace Y:=Y.under hb4 (by omega);replace hB:=hB.trans (hb4.mono (by omega));replace hzc:w5.heap.size≤nw.heap.size:=Nat.le_trans hzc hb4.size;obtain⟨ua,uc,rfl⟩:=zf_ O;clear O0 hE hgr gl hb4;refine hK.out _ _ X (fun zb_=> ?_);clear hK K;generalize nw=cur at*;refine tkH 18 (.agg #[(3:Int),id,p,te,a,tb,.slice ua L.length uc,co,false]) rfl ?_ ?_
   ·intro wx hSw;clear hSw zb_;go_simp
   simp only [Act.put,sA_,sB_,sC_];refine rd1 19 rfl (fun K hK=> ?_);clear zb_;have hC:=zo_ cur (w.heap.size+1) (.int .i64 3) id p te a tb (.slice ua L.length uc) co false;have Z:=zp_ Y (.int .i64 3) id p te a tb (.slice ua L.length uc) co false;have X8:=hC.box X (by omega);have O8:=hC.owns (zg_ O (show w.heap.size≤w5.heap.size from by omega)) (fun b hb hh=>by have:=ze_ O b hb;have hh:b=w.heap.size+1:=hh;omega);have hBE:=hB.trans (hC.b1 hB.size (by omega));obtain⟨hyl,y0,y1,y2,y3,y4,y5,y6,y7,y8⟩:=Y.e9;obtain⟨f0,f1,f2,f3,f4,f5,f6,f7,f8⟩:=Y.f9;clear hC X Y hB O;obtain⟨WZ,hWZ⟩:∃WZ,WZ=put9 cur (w.heap.size+1) (.int .i64 3) (.int .i64 id) (.int .i64 p) (.int .i64 te) (.int .i64 a) (.int .i64 tb) (.slice ua L.length uc) (.int .i64 co) (.bool false):=⟨_,rfl⟩;rw [←hWZ] at Z X8 O8 hBE;unfold put9 at hWZ;go_simp;rw [←hWZ];refine hK.out _ _ X8 (fun zb_=> ?_);clear hK K hWZ hyl y0 y1 y2 y3 y4 y5 y6 y7 y8 f0 f1 f2 f3 f4 f5 f6 f7 f8;refine tkH 20 (.bool true) rfl ?_ ?_
   ·intro wx hSw;clear hSw zb_;go_simp
   simp only [Act.put,sA_,sB_,sC_];clear zb_;refine wpAnyH_done (by kernel_rfl) ?_ _;obtain⟨hzl,t0,t1,t2,t3,t4,t5,t6,t7,t8⟩:=Z.e9;clear Z X8;go_wp2;exact bodyPost_ret (v:= .tuple #[.agg #[(3:Int),id,p,te,a,tb,.slice ua L.length uc,co,false],true]) (by simp [results,Try.results17,go_sem,t0,t1,t2,t3,t4,t5,t6,t7,t8]) rfl ⟨_,by rw [HTB.out],by rw [HL.out];exact O8,hBE⟩
end Go.Proofs.Ytapfhhmimkkhnaa
