/-
  A message handled: impl.HandleMsg, whatever the kind.
  AppendFor: the program's side.
  What nodes do, in one form: TimeoutNode, ProposeNode, CrashNode, AppendFor, HandleMsg.
  A good cluster: the specification's side.
  What the laws of clusters lean on.
  A cluster copied: impl's copyMessage, copyCluster.
-/
import Derived.Test.YtapfhhmimkkhnaaGreatWNToHM
import Derived.Test.YtapfhhmimkkhnaaGreatG1ToRF7
import Derived.Deep.Cut
import Derived.Test.YtapfhhmimkkhnaaGreatHDToCY
import Derived.Test.YtapfhhmimkkhnaaGreatQ8ToQD
import Derived.Test.YtapfhhmimkkhnaaGreatCFToCK
import Derived.Test.YtapfhhmimkkhnaaGreatN1ToA3
namespace Go.Proofs.YtapfhhmimkkhnaaGreat
open Go.RowKit Go.Maps
set_option linter.unusedVariables false
set_option maxRecDepth 100000
theorem callF_171 (args:Array Value) (W:World):(callFunc 171 args).run Tryz.prog W= .ok (.enter 171 args) W:=by simp [go_sem]
theorem callF_172 (args:Array Value) (W:World):(callFunc 172 args).run Tryz.prog W= .ok (.enter 172 args) W:=by simp [go_sem]
theorem callF_173 (args:Array Value) (W:World):(callFunc 173 args).run Tryz.prog W= .ok (.enter 173 args) W:=by simp [go_sem]
theorem callF_174 (args:Array Value) (W:World):(callFunc 174 args).run Tryz.prog W= .ok (.enter 174 args) W:=by simp [go_sem]
theorem implHM_any (ki:Int) (k p:Nat) (te vo co ro:Int) (la:Option Addr) (lc:Nat) (va:Option Addr) (vc:Nat) (ma:Option Addr) (mc:Nat) (log:List En) (vs mt:List Int) (f q:Nat) (mte be mco:Int) (ye:Bool) (ea:Option Addr) (ec:Nat) (es:List En) (w:World)
  (hl:ER w (.slice la log.length lc) log) (hv:IL w (.slice va vs.length vc) vs) (hm:IL w (.slice ma mt.length mc) mt) (he:ER w (.slice ea es.length ec) es) (hce:es.length≤ec)
  (sl:Nn (.slice la log.length lc)) (sv:Nn (.slice va vs.length vc)) (sm:Nn (.slice ma mt.length mc))
  (hP:hmP ⟨k,p,te,vo,co,ro,log,vs,mt⟩ ⟨ki,f,k,mte,q,be,mco,ye,es⟩=true) (z:Nd) (hz:z=hmX ⟨k,p,te,vo,co,ro,log,vs,mt⟩ ⟨ki,f,k,mte,q,be,mco,ye,es⟩) (AA:List Ms) (hAA:AA=hmA (hmU ⟨k,p,te,vo,co,ro,log,vs,mt⟩ mte) ⟨ki,f,k,mte,q,be,mco,ye,es⟩) (ok:Bool) (hok:ok=hmOk ⟨k,p,te,vo,co,ro,log,vs,mt⟩ ⟨ki,f,k,mte,q,be,mco,ye,es⟩):
  Calls Tryz.prog 130 #[.agg #[k,p,te,vo,.slice la log.length lc,co,ro,.slice va vs.length vc,.slice ma mt.length mc],.agg #[ki,f,k,mte,q,be,.slice ea es.length ec,mco,ye]] w fun e w'=>HmA w' w.heap.size z AA ok e∧Below w.heap.size w w':=by
 have hPq:=hP;simp only [hmP,Bool.and_eq_true,decide_eq_true_eq] at hPq;obtain⟨hGN,hGM,_⟩:=hPq;obtain⟨g1,g2,g3,g4,g5,g6,g7⟩:=zt_ hGM;dsimp only at g2 g7;have gx:=Gd.of hGN;have hk:k<p:=by have:=gx.ip;dsimp only at this;omega
 have hp:p≤7:=by have:=gx.p7;dsimp only at this;omega
 have hok':ok=(hmB (hmU ⟨k,p,te,vo,co,ro,log,vs,mt⟩ mte) ⟨ki,f,k,mte,q,be,mco,ye,es⟩&&gN z):=by rw [hok,hz];unfold hmOk;rw [hP];rfl
 have hq:q≤60∧es.length≤60:=by
  rcases kind_in g7 with h | h | h | h
  ·subst h;have:=kind_1 g7;rw [this.2.1];simp;omega
  ·subst h;have:=kind_2 g7;rw [this.2.2.1];simp;omega
  ·subst h;have:=kind_3 g7;omega
  ·subst h;have:=kind_4 g7;rw [this.2.2.1];simp;omega
 obtain⟨hq,ne⟩:=hq;rcases kind_in g7 with h | h | h | h
 ·subst h;exact implHM_H 1 171 k p te vo co ro la lc va vc ma mc log vs mt f q mte be mco ye ea ec es w callF_171 handlerOf_1 (fun te vo co ro la lc va vc ma mc log vs mt base W ho hb he nl ha hf=>handler_1 k p hk hp te vo co ro la lc va vc ma mc log vs mt f q k mte be mco ye ea ec es base W ho hb he hce nl ne hq ha hf) hl hv hm he sl sv sm hP z hz AA hAA _ rfl ok hok'
 ·subst h;exact implHM_H 2 172 k p te vo co ro la lc va vc ma mc log vs mt f q mte be mco ye ea ec es w callF_172 handlerOf_2 (fun te vo co ro la lc va vc ma mc log vs mt base W ho hb he nl ha hf=>handler_2 k p hk hp te vo co ro la lc va vc ma mc log vs mt f q k mte be mco ye ea ec es base W ho hb he hce nl ne hq ha hf) hl hv hm he sl sv sm hP z hz AA hAA _ rfl ok hok'
 ·subst h;exact implHM_H 3 173 k p te vo co ro la lc va vc ma mc log vs mt f q mte be mco ye ea ec es w callF_173 handlerOf_3 (fun te vo co ro la lc va vc ma mc log vs mt base W ho hb he nl ha hf=>handler_3 k p hk hp te vo co ro la lc va vc ma mc log vs mt f q k mte be mco ye ea ec es base W ho hb he hce nl ne hq ha hf) hl hv hm he sl sv sm hP z hz AA hAA _ rfl ok hok'
 ·subst h;exact implHM_H 4 174 k p te vo co ro la lc va vc ma mc log vs mt f q mte be mco ye ea ec es w callF_174 handlerOf_4 (fun te vo co ro la lc va vc ma mc log vs mt base W ho hb he nl ha hf=>handler_4 k p hk hp te vo co ro la lc va vc ma mc log vs mt f q k mte be mco ye ea ec es base W ho hb he hce nl ne hq ha hf) hl hv hm he sl sv sm hP z hz AA hAA _ rfl ok hok'
set_option maxHeartbeats 8000000
theorem sl_from2 (w:World) (a:Option Addr) (cap p:Nat) (zs:List En) (h:ER w (.slice a zs.length cap) zs) (hc:zs.length≤cap) (hp:p≤zs.length):∃a2,(a2=none→a=none)∧(∀w,(Instr.sliceAt 39 (.slice a zs.length cap) (some (.int .i64 p)) none none).run Tryz.prog w= .ok (.slice a2 (zs.length-p) (cap-p)) w)∧ER w (.slice a2 (zs.length-p) (cap-p)) (zs.drop p):=by
 refine⟨if cap=p then a else a.map (fun x=>x.add (p*2)),fun h=>by (by_cases e:cap=p);(rw [if_pos e] at h;exact h);(rw [if_neg e] at h;simpa using h),fun w=> ?_,?_⟩
 ·have h1:(p:Int)≤(zs.length:Int):=by omega
  have h2:(0:Int)≤(p:Int):=by omega
  have hA:(Instr.sliceAt 39 (.slice a zs.length cap) (some (.int .i64 p)) none none).run Tryz.prog w=(Instr.slice 39 (.slice a zs.length cap) (some (.int .i64 p)) none none).run Tryz.prog w:=by simp [Instr.sliceAt,run_underlying Tryz.underlying39]
  rw [hA];simp [Instr.slice,Instr.sliceBounds,Instr.sliceBound,asIntOf,run_underlying Tryz.underlying39,hp,h2,Tryz.sizeOf44]
 ·obtain⟨a',c',he,hcc⟩:=h;simp only [Value.slice.injEq,true_and] at he;obtain⟨rfl,rfl⟩:=he;refine⟨_,_,by rw [List.length_drop],fun hne=> ?_⟩;have hlt:p<zs.length:=by
   rcases Nat.lt_or_ge p zs.length with h | h
   ·exact h
   ·exact absurd (List.drop_eq_nil_of_le h) hne
  obtain⟨b,off,rfl,hb,hcell⟩:=hcc (by intro e;rw [e] at hlt;simp at hlt);rw [if_neg (by omega)];refine⟨b,off+p*2,by simp [Addr.add],hb,fun i hi=> ?_⟩;rw [List.getElem_drop];rw [List.length_drop] at hi;have hq:=hcell (p+i) (by omega);rw [show off+(p+i)*2=off+p*2+i*2 from by omega] at hq;exact hq
theorem implAF_any (id pe te vo co ro:Int) (vl vv vm:Value) (log:List En) (vs mt:List Int) (peer many:Int) (base:Nat) (w:World) (ho:OwnN w base vl vv vm log vs mt) (nl:log.length≤1048576) (nv:vs.length≤1048576) (nm:mt.length≤1048576) (ns:∀i (h:i<log.length),log[i].d.size≤1048576):
  Calls Tryz.prog 133 #[.agg #[id,pe,te,vo,vl,co,ro,vv,vm],peer,many] w fun e w'=>∃ue,e= .returned (.tuple #[.agg #[.int .i64 (afM (afOk (zn_ id pe te vo co ro log vs mt) id pe ro peer many) id te co peer many log mt).ki,.int .i64 (afM (afOk (zn_ id pe te vo co ro log vs mt) id pe ro peer many) id te co peer many log mt).fr,.int .i64 (afM (afOk (zn_ id pe te vo co ro log vs mt) id pe ro peer many) id te co peer many log mt).dst,.int .i64 (afM (afOk (zn_ id pe te vo co ro log vs mt) id pe ro peer many) id te co peer many log mt).te,.int .i64 (afM (afOk (zn_ id pe te vo co ro log vs mt) id pe ro peer many) id te co peer many log mt).ix,.int .i64 (afM (afOk (zn_ id pe te vo co ro log vs mt) id pe ro peer many) id te co peer many log mt).be,ue,.int .i64 (afM (afOk (zn_ id pe te vo co ro log vs mt) id pe ro peer many) id te co peer many log mt).co,.bool (afM (afOk (zn_ id pe te vo co ro log vs mt) id pe ro peer many) id te co peer many log mt).ye],.bool (afOk (zn_ id pe te vo co ro log vs mt) id pe ro peer many)])∧w'.ownsRow w.heap.size 44 2 ue (afM (afOk (zn_ id pe te vo co ro log vs mt) id pe ro peer many) id te co peer many log mt).es.length (zx_ (afM (afOk (zn_ id pe te vo co ro log vs mt) id pe ro peer many) id te co peer many log mt).es)∧Below w.heap.size w w':=by
 obtain⟨W0,hW0,hB,X,Y,hz00⟩:=al2 w [id,pe,te,vo,vl,co,ro,vv,vm] 42 zM 80;have ho0:=ho.below hB;have K:=zO_ id pe te vo co ro vl vv vm log vs mt _ ho0.er ho0.iv ho0.im nl nv nm ns;have E1:=fun W (h:Below w.heap.size w W)=>(ho.below h).er;have E2:=fun W (h:Below w.heap.size w W)=>(ho.below h).iv;have E3:=fun W (h:Below w.heap.size w W)=>(ho.below h).im;have N1:=ho.nns.1;have HG:zn_ id pe te vo co ro log vs mt=true→ro=2→0≤id∧id<pe∧(mt.length:Int)=pe:=fun h h2=>by rw [h2] at h;exact goodN_lead h
 have HT:zn_ id pe te vo co ro log vs mt=true→ro=2→∀i (hi:i<mt.length),0≤mt[i]∧mt[i]≤(log.length:Int):=fun h h2=>by rw [h2] at h;exact goodN_mt h
 have HP:zn_ id pe te vo co ro log vs mt=true→1≤pe∧pe≤7:=fun h=>by rw [zN_] at h;simp [inB] at h;omega
 generalize zn_ id pe te vo co ro log vs mt=g at*;obtain⟨⟨la,lc,rfl⟩,⟨va,vc,rfl⟩,ma,mc,rfl⟩:=ho.shapes;have hcap:=(owns_cap ho.l).1;clear ns ho0 ho;have hok:(afOk g id pe ro peer many=true∧g=true∧ro=2∧isP peer pe=true∧¬peer=id∧0≤many∧many≤60)∨(afOk g id pe ro peer many=false∧(g=false∨(g=true∧(¬ro=2∨(ro=2∧(isP peer pe=false∨(isP peer pe=true∧(peer=id∨(¬peer=id∧(many<0∨(0≤many∧60<many))))))))))):=by
  unfold afOk;generalize isP peer pe=b
  cases g
  ·exact .inr ⟨rfl,.inl rfl⟩
  ·by_cases h1:ro=2
   ·cases b
    ·exact .inr ⟨by simp,.inr ⟨rfl,.inr ⟨h1,.inl rfl⟩⟩⟩
    ·by_cases h2:peer=id
     ·exact .inr ⟨by simp [h2],.inr ⟨rfl,.inr ⟨h1,.inr ⟨rfl,.inl h2⟩⟩⟩⟩
     ·by_cases h3:0≤many
      ·by_cases h4:many≤60
       ·exact .inl ⟨by simp [h1,h2,h3,h4],rfl,h1,rfl,h2,h3,h4⟩
       ·exact .inr ⟨by simp [h1,h2];omega,.inr ⟨rfl,.inr ⟨h1,.inr ⟨rfl,.inr ⟨h2,.inr ⟨h3,by omega⟩⟩⟩⟩⟩⟩
      ·exact .inr ⟨by simp [h1,h2];omega,.inr ⟨rfl,.inr ⟨h1,.inr ⟨rfl,.inr ⟨h2,.inl (by omega)⟩⟩⟩⟩⟩
   ·exact .inr ⟨by simp [h1],.inr ⟨rfl,.inl h1⟩⟩
 have KP:=fun W=>isPeer_any peer pe W;rcases hok with⟨he,rfl,rfl,hp,hne,hm0,hm1⟩ | ⟨he,hcs⟩;rotate_left
 ·rw [he];show Calls Tryz.prog 133 _ w fun e w'=>∃ue,e= .returned (.tuple #[.agg #[(0:Int),(0:Int),(0:Int),(0:Int),(0:Int),(0:Int),ue,(0:Int),false],false])∧w'.ownsRow w.heap.size 44 2 ue 0 (zx_ [])∧Below w.heap.size w w';clear he HG HT HP E1 E2 E3 N1;generalize isP peer pe=bp at*;go_enter Tryz.func133,Tryz.ntmps133;go_wp2_with fail;rw [←hW0];clear hW0;refine K.mono ?_;rintro e w1 ⟨rfl,hb⟩;replace hB:=za_ hB hb;replace Y:=Y.below hb;replace X:=X.below hb;clear K hb;have hC:=zl_ w1 (w.heap.size+1) (0:Int) (0:Int) (0:Int) (0:Int) (0:Int) (0:Int) () (0:Int) false;have Z:=zm_ Y (0:Int) (0:Int) (0:Int) (0:Int) (0:Int) (0:Int) () (0:Int) false;have hBE:=hB.trans (hC.b1 hB.size (by omega));obtain⟨hxl,x0,x1,x2,x3,x4,x5,x6,x7,x8⟩:=X.e9;obtain⟨hyl,y0,y1,y2,y3,y4,y5,y6,y7,y8⟩:=Y.e9;obtain⟨f0,f1,f2,f3,f4,f5,f6,f7,f8⟩:=Y.f9;obtain⟨hzl,t0,t1,t2,t3,t4,t5,t6,t7,t8⟩:=Z.e9;clear Z hC hB Y X;unfold put9 at*;rcases hcs with rfl | ⟨rfl,hcs⟩
  ·clear KP;go_wp2;exact bodyPost_ret (v:= .tuple #[.agg zM,false]) (by simp [results,Tryz.results133,go_sem,t0,t1,t2,t3,t4,t5,t6,t7,t8]) rfl ⟨_,rfl,World.ownsRow_nil _ _ _ _,hBE⟩
  rcases hcs with h1 | ⟨rfl,hcs⟩
  ·have h1b:(ro !=2)=true:=by simp [h1]
   clear KP;go_wp2;exact bodyPost_ret (v:= .tuple #[.agg zM,false]) (by simp [results,Tryz.results133,go_sem,t0,t1,t2,t3,t4,t5,t6,t7,t8]) rfl ⟨_,rfl,World.ownsRow_nil _ _ _ _,hBE⟩
  go_wp2_with fail;refine (KP _).mono ?_;rintro e w2 ⟨rfl,hw⟩;subst hw;clear KP;rcases hcs with rfl | ⟨rfl,hcs⟩
  ·skip;go_wp2;exact bodyPost_ret (v:= .tuple #[.agg zM,false]) (by simp [results,Tryz.results133,go_sem,t0,t1,t2,t3,t4,t5,t6,t7,t8]) rfl ⟨_,rfl,World.ownsRow_nil _ _ _ _,hBE⟩
  rcases hcs with rfl | ⟨h2,hcs⟩
  ·skip;go_wp2;exact bodyPost_ret (v:= .tuple #[.agg zM,false]) (by simp [results,Tryz.results133,go_sem,t0,t1,t2,t3,t4,t5,t6,t7,t8]) rfl ⟨_,rfl,World.ownsRow_nil _ _ _ _,hBE⟩
  have h2b:(peer==id)=false:=by simp [h2]
  rcases hcs with h3 | ⟨h3,h4⟩
  ·skip;go_wp2;exact bodyPost_ret (v:= .tuple #[.agg zM,false]) (by simp [results,Tryz.results133,go_sem,t0,t1,t2,t3,t4,t5,t6,t7,t8]) rfl ⟨_,rfl,World.ownsRow_nil _ _ _ _,hBE⟩
  ·have h3b:¬many<0:=by omega
   go_wp2;exact bodyPost_ret (v:= .tuple #[.agg zM,false]) (by simp [results,Tryz.results133,go_sem,t0,t1,t2,t3,t4,t5,t6,t7,t8]) rfl ⟨_,rfl,World.ownsRow_nil _ _ _ _,hBE⟩
 obtain⟨i0,i1,hmp⟩:=HG rfl rfl;have hpp:0≤peer∧peer<pe:=by simp [isP] at hp;omega
 obtain⟨p,rfl⟩:=Int.eq_ofNat_of_zero_le hpp.1;have hpl:p<mt.length:=by omega
 obtain⟨a0,a1⟩:=HT rfl rfl p hpl;obtain⟨m,rfl⟩:=Int.eq_ofNat_of_zero_le hm0;rw [he];have hgd:mt.getD p 0=mt[p]:=yj_ mt p hpl;show Calls Tryz.prog 133 _ w fun e w'=>∃ue,e= .returned (.tuple #[.agg #[(3:Int),id,p,te,(mt.getD p 0:Int),(tmAt log (mt.getD p 0).toNat:Int),ue,co,false],true])∧w'.ownsRow w.heap.size 44 2 ue (afE log (mt.getD p 0).toNat m).length (zx_ (afE log (mt.getD p 0).toNat m))∧Below w.heap.size w w';rw [hgd];obtain⟨a,ha⟩:=Int.eq_ofNat_of_zero_le a0;have hx:=E3 _ hB;obtain⟨ma2,mc2,hme,hmc⟩:=hx;simp only [Value.slice.injEq,true_and] at hme;obtain⟨rfl,rfl⟩:=hme;obtain⟨bm,om,rfl,hbm,hcm⟩:=hmc (by intro e;rw [e] at hpl;simp at hpl);have hcp:=hcm p hpl;rw [ha] at a1 hcp ⊢;rw [Int.toNat_natCast];have hal:a≤log.length:=by omega
 clear hcm hmc ha a0 hgd he HG HT HP hp hmp;have KT:=fun W (h:Below w.heap.size w W)=>termAt_any id pe te vo co 2 _ _ _ log vs mt a W (E1 W h) (E2 W h) (E3 W h) hal nl;have MT:=fun W=>messageTo_any id pe te vo co 2 (p:Int) 3 (.slice la log.length lc) (.slice va vs.length vc) (.slice (some ⟨bm,om,none⟩) mt.length mc) W;have KP2:∀W,Calls Tryz.prog 120 #[p,pe] W fun e w'=>e= .returned (.bool true)∧w'=W:=fun W=>by
  have:=KP W;rw [show isP (p:Int) pe=true from by simp [isP];omega] at this;exact this
 obtain⟨n,hn⟩:∃n,n=min m (log.length-a):=⟨_,rfl⟩;have hnl:n≤log.length-a:=by omega
 obtain⟨L,HL⟩:∃L,Hid (afE log a m=L):=⟨afE log a m,rfl⟩;have hLe:L=(log.drop a).take n:=by rw [←HL.out,hn];rfl
 have hLl:L.length=n:=by rw [hLe,List.length_take,List.length_drop];omega
 have hdl:(log.drop a).length=log.length-a:=by simp
 obtain⟨a2,HA2,HS1,_⟩:=sl_from2 W0 la lc a log (E1 W0 hB) hcap hal;have HS2:=fun W=>sl_to a2 (log.length-a) (lc-a) n W (by omega);have HE2:∀W,Below w.heap.size w W→ER W (.slice a2 n (lc-a)) L:=fun W h=>by
  obtain⟨a3,h3,h4⟩:=sl_from W la lc a log (E1 W h) hcap hal;have e1:=HS1 W;have e2:=h3 W;rw [e1] at e2;simp only [Result.ok.injEq,Value.slice.injEq,and_true] at e2;subst e2;rw [hLe];have:=ER_to (zs:=log.drop a) (a:=a2) (cap:=lc-a) (p:=n) (by rw [hdl];exact h4) (by omega);exact this
 have HN2:Nn (.slice a2 n (lc-a)):=by
  intro x y hxy;simp only [Value.slice.injEq] at hxy;obtain⟨h1,h2,h3⟩:=hxy;have hla:=HA2 h1;subst hla;have:=N1 _ _ rfl;omega
 have CL:=fun W (h:Below w.heap.size w W)=>cloneE_any (.slice a2 n (lc-a)) L W (HE2 W h) HN2 (by omega);have hcap1:a≤lc:=by omega
 obtain⟨tb,HTB⟩:∃tb:Int,Hid (tmAt log a=tb):=⟨tmAt log a,rfl⟩;rw [HTB.out] at KT;have hneb:((p:Int)==id)=false:=by simp [hne]
 have hm2:¬(m:Int)<0:=by omega
 have hm3:¬(60:Int)<(m:Int):=by omega
 have HLL:Hid (L.length=n):=hLl;have hcs:(n=m∧m≤log.length-a)∨(n=log.length-a∧log.length-a<m):=by omega
 clear E1 E2 E3 HE2 HN2 N1 HA2 KP hLe hLl hdl hn hcap hne i0 i1 hpp hm0 hm1;rcases hcs with⟨rfl,hmn⟩ | ⟨rfl,hmn⟩
 ·have hmi:(n:Int)≤((log.length-a:Nat):Int):=by omega
  go_enter Tryz.func133,Tryz.ntmps133;go_wp2_with fail;rw [←hW0];clear hW0;refine K.mono ?_;rintro e w1 ⟨rfl,hb⟩;replace hB:=za_ hB hb;replace Y:=Y.below hb;replace X:=X.below hb;replace hcp:=(hb.cell (p:=⟨bm,om+p,none⟩) hbm).trans hcp;have hz1:=hb.size;clear K hb;obtain⟨hxl,x0,x1,x2,x3,x4,x5,x6,x7,x8⟩:=X.e9;go_wp2_with fail;refine (KP2 _).mono ?_;rintro e w1' ⟨rfl,hw⟩;subst hw;clear KP2;go_wp2_with fail;refine (MT _).mono ?_;rintro e w2 ⟨rfl,hb⟩;replace hB:=za_ hB hb;replace Y:=Y.below hb;replace X:=X.below hb;replace hcp:=(hb.cell (p:=⟨bm,om+p,none⟩) (by show bm<_;omega)).trans hcp;have hz2:=hb.size;clear MT hb hxl x0 x1 x2 x3 x4 x5 x6 x7 x8;obtain⟨hxl,x0,x1,x2,x3,x4,x5,x6,x7,x8⟩:=X.e9;have hbm2:bm<w2.heap.size:=by omega
  have BA:=zb_ w2 (.cells #[(3:Int),id,p,te,a,(0:Int),(),(0:Int),false] 80);have MB:=Box.new w2 #[(3:Int),id,p,te,a,(0:Int),(),(0:Int),false] 80;have hBa:=za_ hB BA;go_wp2_with fail;refine (KT _ hBa).mono ?_;rintro e w3 ⟨rfl,hb⟩;replace hB:=za_ hBa hb;replace Y:=(Y.below BA).below hb;replace X:=(X.below BA).below hb;replace MB:=MB.below hb;have hz3:=hb.size;simp only [World.size_alloc] at hz3;clear KT hb BA hBa hxl x0 x1 x2 x3 x4 x5 x6 x7 x8 hcp;obtain⟨hxl,x0,x1,x2,x3,x4,x5,x6,x7,x8⟩:=X.e9;obtain⟨hml,m0,m1,m2,m3,m4,m5,m6,m7,m8⟩:=MB.e9;obtain⟨e0,e1,e2,e3,e4,e5,e6,e7,e8⟩:=MB.f9;go_upto_region 6 with fail;obtain⟨W3,hW3⟩:∃W3,W3=w3.setCell ⟨w2.heap.size,5,none⟩ (.int .i64 tb):=⟨_,rfl⟩;have hC:Chg (fun k=>k=w2.heap.size) w3 W3:=by rw [hW3];exact Chg.setCell (S:=fun k=>k=w2.heap.size) (Chg.refl _ _) rfl _
  have M3:Box W3 w2.heap.size [(3:Int),id,p,te,a,tb,(),(0:Int),false]:=by rw [hW3];exact MB.set 5 _ (by simp)
  have X3:=hC.box X (by omega);have Y3:=hC.box Y (by omega);have hB3:=hB.trans (hC.b1 hB.size (by omega));have hzW:w3.heap.size≤W3.heap.size:=hC.size;rw [←hW3];clear hW3 hC MB X Y hB hxl x0 x1 x2 x3 x4 x5 x6 x7 x8 hml m0 m1 m2 m3 m4 m5 m6 m7 m8 e0 e1 e2 e3 e4 e5 e6 e7 e8;obtain⟨hxl,x0,x1,x2,x3,x4,x5,x6,x7,x8⟩:=X3.e9;obtain⟨hml,m0,m1,m2,m3,m4,m5,m6,m7,m8⟩:=M3.e9;go_wp2_with (first | (refine wpList_sliceOp _ rfl 23 _ _ _ _ rfl _ (HS1 _) ?_;simp only [Act.put,sA_,sB_,sC_]) | (refine wpList_sliceOp _ rfl 23 _ _ _ _ rfl _ (HS2 _) ?_;simp only [Act.put,sA_,sB_,sC_]));refine (CL _ hB3).mono ?_;rintro e w4 ⟨u,rfl,O,hb⟩;replace hB3:=za_ hB3 hb;replace Y3:=Y3.below hb;replace X3:=X3.below hb;replace M3:=M3.below hb;obtain⟨ua,uc,rfl⟩:=ze_ O;have gO:=zh_ O;have hz4:=hb.size;clear CL hb HS1 HS2 hxl x0 x1 x2 x3 x4 x5 x6 x7 x8 hml m0 m1 m2 m3 m4 m5 m6 m7 m8;obtain⟨hxl,x0,x1,x2,x3,x4,x5,x6,x7,x8⟩:=X3.e9;obtain⟨hml,m0,m1,m2,m3,m4,m5,m6,m7,m8⟩:=M3.e9;have e6:=M3.2.2 6;have e7:=M3.2.2 7;go_upto_region 9 with fail;obtain⟨W4,hW4⟩:∃W4,W4=(w4.setCell ⟨w2.heap.size,6,none⟩ (.slice ua L.length uc)).setCell ⟨w2.heap.size,7,none⟩ (.int .i64 co):=⟨_,rfl⟩;have hC:Chg (fun k=>k=w2.heap.size) w4 W4:=by rw [hW4];exact Chg.setCell (S:=fun k=>k=w2.heap.size) (Chg.setCell (S:=fun k=>k=w2.heap.size) (Chg.refl _ _) rfl _) rfl _
  have M4:Box W4 w2.heap.size [(3:Int),id,p,te,a,tb,.slice ua L.length uc,co,false]:=by rw [hW4];exact (M3.set 6 _ (by simp)).set 7 _ (by simp)
  have Y4:=hC.box Y3 (by omega);have O4:=hC.owns O (fun b hb hh=>by have:=gO b hb;have hh:b=w2.heap.size:=hh;omega);have hB4:=hB3.trans (hC.b1 hB3.size (by omega));rw [←hW4];clear hW4 hC M3 X3 Y3 hB3 O hxl x0 x1 x2 x3 x4 x5 x6 x7 x8 hml m0 m1 m2 m3 m4 m5 m6 m7 m8 e6 e7;have hC:=zl_ W4 (w.heap.size+1) (.int .i64 3) id p te a tb (.slice ua L.length uc) co false;have Z:=zm_ Y4 (.int .i64 3) id p te a tb (.slice ua L.length uc) co false;have hO:=hC.owns (zf_ O4 (show w.heap.size≤W3.heap.size from by omega)) (fun b hb hh=>by have:=gO b hb;have hh:b=w.heap.size+1:=hh;omega);have hBE:=hB4.trans (hC.b1 hB4.size (by omega));obtain⟨hml,m0,m1,m2,m3,m4,m5,m6,m7,m8⟩:=M4.e9;obtain⟨hyl,y0,y1,y2,y3,y4,y5,y6,y7,y8⟩:=Y4.e9;obtain⟨f0,f1,f2,f3,f4,f5,f6,f7,f8⟩:=Y4.f9;obtain⟨hzl,t0,t1,t2,t3,t4,t5,t6,t7,t8⟩:=Z.e9;clear Z hC hB4 Y4 M4 O4 gO;unfold put9 at*;go_wp2;exact bodyPost_ret (v:= .tuple #[.agg #[(3:Int),id,p,te,a,tb,.slice ua L.length uc,co,false],true]) (by simp [results,Tryz.results133,go_sem,t0,t1,t2,t3,t4,t5,t6,t7,t8]) rfl ⟨_,by rw [HTB.out],by rw [HL.out];exact hO,hBE⟩
 ·have hmi:((log.length-a:Nat):Int)<(m:Int):=by omega
  go_enter Tryz.func133,Tryz.ntmps133;go_wp2_with fail;rw [←hW0];clear hW0;refine K.mono ?_;rintro e w1 ⟨rfl,hb⟩;replace hB:=za_ hB hb;replace Y:=Y.below hb;replace X:=X.below hb;replace hcp:=(hb.cell (p:=⟨bm,om+p,none⟩) hbm).trans hcp;have hz1:=hb.size;clear K hb;obtain⟨hxl,x0,x1,x2,x3,x4,x5,x6,x7,x8⟩:=X.e9;go_wp2_with fail;refine (KP2 _).mono ?_;rintro e w1' ⟨rfl,hw⟩;subst hw;clear KP2;go_wp2_with fail;refine (MT _).mono ?_;rintro e w2 ⟨rfl,hb⟩;replace hB:=za_ hB hb;replace Y:=Y.below hb;replace X:=X.below hb;replace hcp:=(hb.cell (p:=⟨bm,om+p,none⟩) (by show bm<_;omega)).trans hcp;have hz2:=hb.size;clear MT hb hxl x0 x1 x2 x3 x4 x5 x6 x7 x8;obtain⟨hxl,x0,x1,x2,x3,x4,x5,x6,x7,x8⟩:=X.e9;have hbm2:bm<w2.heap.size:=by omega
  have BA:=zb_ w2 (.cells #[(3:Int),id,p,te,a,(0:Int),(),(0:Int),false] 80);have MB:=Box.new w2 #[(3:Int),id,p,te,a,(0:Int),(),(0:Int),false] 80;have hBa:=za_ hB BA;go_wp2_with fail;refine (KT _ hBa).mono ?_;rintro e w3 ⟨rfl,hb⟩;replace hB:=za_ hBa hb;replace Y:=(Y.below BA).below hb;replace X:=(X.below BA).below hb;replace MB:=MB.below hb;have hz3:=hb.size;simp only [World.size_alloc] at hz3;clear KT hb BA hBa hxl x0 x1 x2 x3 x4 x5 x6 x7 x8 hcp;obtain⟨hxl,x0,x1,x2,x3,x4,x5,x6,x7,x8⟩:=X.e9;obtain⟨hml,m0,m1,m2,m3,m4,m5,m6,m7,m8⟩:=MB.e9;obtain⟨e0,e1,e2,e3,e4,e5,e6,e7,e8⟩:=MB.f9;go_upto_region 6 with fail;obtain⟨W3,hW3⟩:∃W3,W3=w3.setCell ⟨w2.heap.size,5,none⟩ (.int .i64 tb):=⟨_,rfl⟩;have hC:Chg (fun k=>k=w2.heap.size) w3 W3:=by rw [hW3];exact Chg.setCell (S:=fun k=>k=w2.heap.size) (Chg.refl _ _) rfl _
  have M3:Box W3 w2.heap.size [(3:Int),id,p,te,a,tb,(),(0:Int),false]:=by rw [hW3];exact MB.set 5 _ (by simp)
  have X3:=hC.box X (by omega);have Y3:=hC.box Y (by omega);have hB3:=hB.trans (hC.b1 hB.size (by omega));have hzW:w3.heap.size≤W3.heap.size:=hC.size;rw [←hW3];clear hW3 hC MB X Y hB hxl x0 x1 x2 x3 x4 x5 x6 x7 x8 hml m0 m1 m2 m3 m4 m5 m6 m7 m8 e0 e1 e2 e3 e4 e5 e6 e7 e8;obtain⟨hxl,x0,x1,x2,x3,x4,x5,x6,x7,x8⟩:=X3.e9;obtain⟨hml,m0,m1,m2,m3,m4,m5,m6,m7,m8⟩:=M3.e9;go_wp2_with (first | (refine wpList_sliceOp _ rfl 23 _ _ _ _ rfl _ (HS1 _) ?_;simp only [Act.put,sA_,sB_,sC_]) | (refine wpList_sliceOp _ rfl 23 _ _ _ _ rfl _ (HS2 _) ?_;simp only [Act.put,sA_,sB_,sC_]));refine (CL _ hB3).mono ?_;rintro e w4 ⟨u,rfl,O,hb⟩;replace hB3:=za_ hB3 hb;replace Y3:=Y3.below hb;replace X3:=X3.below hb;replace M3:=M3.below hb;obtain⟨ua,uc,rfl⟩:=ze_ O;have gO:=zh_ O;have hz4:=hb.size;clear CL hb HS1 HS2 hxl x0 x1 x2 x3 x4 x5 x6 x7 x8 hml m0 m1 m2 m3 m4 m5 m6 m7 m8;obtain⟨hxl,x0,x1,x2,x3,x4,x5,x6,x7,x8⟩:=X3.e9;obtain⟨hml,m0,m1,m2,m3,m4,m5,m6,m7,m8⟩:=M3.e9;have e6:=M3.2.2 6;have e7:=M3.2.2 7;go_upto_region 9 with fail;obtain⟨W4,hW4⟩:∃W4,W4=(w4.setCell ⟨w2.heap.size,6,none⟩ (.slice ua L.length uc)).setCell ⟨w2.heap.size,7,none⟩ (.int .i64 co):=⟨_,rfl⟩;have hC:Chg (fun k=>k=w2.heap.size) w4 W4:=by rw [hW4];exact Chg.setCell (S:=fun k=>k=w2.heap.size) (Chg.setCell (S:=fun k=>k=w2.heap.size) (Chg.refl _ _) rfl _) rfl _
  have M4:Box W4 w2.heap.size [(3:Int),id,p,te,a,tb,.slice ua L.length uc,co,false]:=by rw [hW4];exact (M3.set 6 _ (by simp)).set 7 _ (by simp)
  have Y4:=hC.box Y3 (by omega);have O4:=hC.owns O (fun b hb hh=>by have:=gO b hb;have hh:b=w2.heap.size:=hh;omega);have hB4:=hB3.trans (hC.b1 hB3.size (by omega));rw [←hW4];clear hW4 hC M3 X3 Y3 hB3 O hxl x0 x1 x2 x3 x4 x5 x6 x7 x8 hml m0 m1 m2 m3 m4 m5 m6 m7 m8 e6 e7;have hC:=zl_ W4 (w.heap.size+1) (.int .i64 3) id p te a tb (.slice ua L.length uc) co false;have Z:=zm_ Y4 (.int .i64 3) id p te a tb (.slice ua L.length uc) co false;have hO:=hC.owns (zf_ O4 (show w.heap.size≤W3.heap.size from by omega)) (fun b hb hh=>by have:=gO b hb;have hh:b=w.heap.size+1:=hh;omega);have hBE:=hB4.trans (hC.b1 hB4.size (by omega));obtain⟨hml,m0,m1,m2,m3,m4,m5,m6,m7,m8⟩:=M4.e9;obtain⟨hyl,y0,y1,y2,y3,y4,y5,y6,y7,y8⟩:=Y4.e9;obtain⟨f0,f1,f2,f3,f4,f5,f6,f7,f8⟩:=Y4.f9;obtain⟨hzl,t0,t1,t2,t3,t4,t5,t6,t7,t8⟩:=Z.e9;clear Z hC hB4 Y4 M4 O4 gO;unfold put9 at*;go_wp2;exact bodyPost_ret (v:= .tuple #[.agg #[(3:Int),id,p,te,a,tb,.slice ua L.length uc,co,false],true]) (by simp [results,Tryz.results133,go_sem,t0,t1,t2,t3,t4,t5,t6,t7,t8]) rfl ⟨_,by rw [HTB.out],by rw [HL.out];exact hO,hBE⟩
set_option maxHeartbeats 200000
def NodeA (w w':World) (ok:Bool) (z:Nd) (A:List Ms) (e:Ending):Prop:=
 (ok=true∧∃(x:Nv) (AB:List Mv) (qa:Option Addr) (qc:Nat),e= .returned (.tuple #[.agg x,.slice qa AB.length qc,true])∧x.n=z∧PN w' w.heap.size x∧AB.map Mv.q=A∧(∀a∈AB,a.ea=none∧a.ec=0∧a.q.es= [])∧AB.length≤100∧w'.ownsRow w.heap.size 80 9 (.slice qa AB.length qc) AB.length (zo_ AB))∨
 (ok=false∧∃(x:Nv),e= .returned (.tuple #[.agg x,(),false]))
theorem nodeA_of {w w':World} {z:Nd} {A:List Ms} {uq:Value} (x:Nv) (hz:x.n=z) (hp:PN w' w.heap.size x) (hA:∀a∈A,a.es= []) (hl:A.length≤100) (hq:w'.ownsRow w.heap.size 80 9 uq A.length (zo_ (A.map bareM))):NodeA w w' true z A (.returned (.tuple #[.agg x,uq,true])):=by
 obtain⟨qa,qc,rfl⟩:=ze_ hq;have e:A.length=(A.map bareM).length:=(List.length_map _).symm;rw [e] at hq hl ⊢;exact .inl ⟨rfl,x,A.map bareM,qa,qc,rfl,hz,hp,bare_q hA,fun a ha=>by obtain⟨b,_,rfl⟩:=List.mem_map.1 ha;exact⟨rfl,rfl,rfl⟩,hl,hq⟩
theorem tmA_es (x:Nd):∀a∈tmA x,a.es= []:=fun a ha=>by
 obtain⟨j,_,_,rfl⟩:=tmA_mem ha;rfl
theorem hmA_es (x:Nd) (m:Ms):∀a∈hmA x m,a.es= []:=by
 intro a ha;unfold hmA at ha
 split at ha
 ·obtain rfl:=List.mem_singleton.1 ha;rfl
 ·split at ha
  ·obtain rfl:=List.mem_singleton.1 ha;unfold appM;split
   ·rfl
   ·split <;>rfl
  ·simp at ha
theorem hmA_len (x:Nd) (m:Ms):(hmA x m).length≤1:=by
 unfold hmA;split
 ·simp
 ·split <;>simp
def NodeB (w w':World) (ok:Bool) (z:Nd) (e:Ending):Prop:=
 (ok=true∧∃(x:Nv),e= .returned (.tuple #[.agg x,true])∧x.n=z∧PN w' w.heap.size x)∨
 (ok=false∧∃(x:Nv),e= .returned (.tuple #[.agg x,false]))
def NodeI (w w':World) (ok:Bool) (z:Nd) (e:Ending):Prop:=
 (ok=true∧∃(x:Nv) (i:Int),e= .returned (.tuple #[.agg x,i,true])∧x.n=z∧PN w' w.heap.size x)∨
 (ok=false∧∃(x:Nv) (i:Int),e= .returned (.tuple #[.agg x,i,false]))
def MsgA (w w':World) (ok:Bool) (z:Ms) (e:Ending):Prop:=
 (ok=true∧∃(x:Mv),e= .returned (.tuple #[.agg x,true])∧x.q=z∧PM w' w.heap.size x)∨
 (ok=false∧∃(x:Mv),e= .returned (.tuple #[.agg x,false]))
theorem tmA_bare (x:Nd):zo_ ((tmA x).map bareM)=zZ_ (zE_ x.id (x.te+1) x.log.length (tmAt x.log x.log.length) x.pe.toNat):=by
 rw [flatM_bare];unfold tmA;rw [List.map_map]
 congr 1
 conv=>rhs;rw [←List.map_id (zE_ x.id (x.te+1) x.log.length (tmAt x.log x.log.length) x.pe.toNat)]
 rfl
theorem tmA_len (x:Nd):(tmA x).length=(zE_ x.id (x.te+1) x.log.length (tmAt x.log x.log.length) x.pe.toNat).length:=by unfold tmA;rw [List.length_map]
theorem tmX_at (x:Nd):(tmX x).id=x.id∧(tmX x).pe=x.pe∧(tmX x).te=x.te+1∧(tmX x).vo=x.id∧(tmX x).co=x.co∧(tmX x).log=x.log:=by
 unfold tmX tmN;split <;>exact⟨rfl,rfl,rfl,rfl,rfl,rfl⟩
theorem nv_of {w:World} {c:Nat} {ul uv um:Value} (z:Nd) (h:OwnN w c ul uv um z.log z.vs z.mt):∃x:Nv,x.n=z∧ul= .slice x.la x.n.log.length x.lc∧uv= .slice x.va x.n.vs.length x.vc∧um= .slice x.ma x.n.mt.length x.mc∧PN w c x:=by
 obtain⟨⟨la,lc,rfl⟩,⟨va,vc,rfl⟩,ma,mc,rfl⟩:=h.shapes;exact⟨⟨z,la,lc,va,vc,ma,mc⟩,rfl,rfl,rfl,rfl,h⟩
theorem implTimeC (x:Nv) (c:Nat) (w:World) (hx:PN w c x) (hg:Gd x.n) (ok:Bool) (hok:ok=tmOk (gN x.n) x.n.ro x.n.te):
  Calls Tryz.prog 126 #[.agg x] w fun e w'=>NodeA w w' ok (tmX x.n) (tmA x.n) e∧Below w.heap.size w w':=by
 have hb:=hg.bnd
 cases ok with
 | false=>
  refine (implTime_no x.n.id x.n.pe x.n.te x.n.vo x.n.co x.n.ro _ _ _ x.n.log x.n.vs x.n.mt c w hx hb.l hb.v hb.m hb.s hok.symm).mono ?_;rintro e w' ⟨ul,uv,um,rfl,ho,hB⟩;obtain⟨y,hy,rfl,rfl,rfl,_⟩:=nv_of Nd.zero ho;exact⟨.inr ⟨rfl,y,by rw [hy];rfl⟩,hB⟩
 | true=>
  refine (implTime_yes x.n.id x.n.pe x.n.te x.n.vo x.n.co x.n.ro _ _ _ x.n.log x.n.vs x.n.mt c w hx hb.l hb.v hb.m hb.s hok.symm).mono ?_;rintro e w' ⟨ul,uv,um,uq,rfl,ho,hq,hB⟩;rw [←tmA_bare,←tmA_len] at hq;obtain⟨e1,e2,e3,e4,e5,e6⟩:=tmX_at x.n;obtain⟨y,hy,rfl,rfl,rfl,hp⟩:=nv_of (tmX x.n) (by rw [e6];exact ho);have hl:(tmA x.n).length≤100:=by
   have:=hg.p7;have:=asksTo_le x.n.id (x.n.te+1) x.n.log.length (tmAt x.n.log x.n.log.length) x.n.pe.toNat;rw [tmA_len];omega
  have q:=nodeA_of (w:=w) y hy hp (tmA_es x.n) hl hq;refine⟨?_,hB⟩;rw [hy,e1,e2,e3,e4,e5] at q;rw [hy];exact q
theorem implPropC (x:Nv) (d:ByteArray) (c:Nat) (w:World) (hx:PN w c x) (hg:Gd x.n) (hd:d.size≤1048576) (ok:Bool) (hok:ok=prOk (gN x.n) x.n.ro x.n.log.length d):
  Calls Tryz.prog 132 #[.agg x,d] w fun e w'=>NodeI w w' ok (prX x.n d) e∧Below w.heap.size w w':=by
 have hb:=hg.bnd;refine (implProp_any x.n.id x.n.pe x.n.te x.n.vo x.n.co x.n.ro _ _ _ x.n.log x.n.vs x.n.mt d c w hx hb.l hb.v hb.m hb.s hd).mono ?_;rintro e w' ⟨ul,uv,um,rfl,ho,hB⟩;rw [show prOk (zn_ x.n.id x.n.pe x.n.te x.n.vo x.n.co x.n.ro x.n.log x.n.vs x.n.mt) x.n.ro x.n.log.length d=ok from hok.symm] at ho ⊢
 cases ok with
 | false=>
  obtain⟨y,hy,rfl,rfl,rfl,_⟩:=nv_of Nd.zero ho;exact⟨.inr ⟨rfl,y,_,by rw [hy];rfl⟩,hB⟩
 | true=>
  obtain⟨y,hy,rfl,rfl,rfl,hp⟩:=nv_of (prX x.n d) ho;exact⟨.inl ⟨rfl,y,_,by rw [hy];rfl,hy,hp⟩,hB⟩
theorem implCrashC (x:Nv) (c:Nat) (w:World) (hx:PN w c x) (hg:Gd x.n) (ok:Bool) (hok:ok=gN x.n):
  Calls Tryz.prog 134 #[.agg x] w fun e w'=>NodeB w w' ok (crX x.n) e∧Below w.heap.size w w':=by
 have hb:=hg.bnd;refine (implCrash_any x.n.id x.n.pe x.n.te x.n.vo x.n.co x.n.ro _ _ _ x.n.log x.n.vs x.n.mt c w hx hb.l hb.v hb.m hb.s).mono ?_;rintro e w' ⟨ul,uv,um,rfl,ho,hB⟩;rw [show zn_ x.n.id x.n.pe x.n.te x.n.vo x.n.co x.n.ro x.n.log x.n.vs x.n.mt=ok from hok.symm] at ho ⊢
 cases ok with
 | false=>
  obtain⟨y,hy,rfl,rfl,rfl,_⟩:=nv_of Nd.zero ho;exact⟨.inr ⟨rfl,y,by rw [hy];rfl⟩,hB⟩
 | true=>
  obtain⟨y,hy,rfl,rfl,rfl,hp⟩:=nv_of (crX x.n) ho;exact⟨.inl ⟨rfl,y,by rw [hy];rfl,hy,hp⟩,hB⟩
theorem mv_of {w:World} {c:Nat} {ue:Value} (z:Ms) (h:w.ownsRow c 44 2 ue z.es.length (zx_ z.es)):∃x:Mv,x.q=z∧ue= .slice x.ea x.q.es.length x.ec∧PM w c x:=by
 obtain⟨a,b,rfl⟩:=ze_ h;exact⟨⟨z,a,b⟩,rfl,rfl,h⟩
theorem implAFC (x:Nv) (peer many:Int) (c:Nat) (w:World) (hx:PN w c x) (hg:Gd x.n) (ok:Bool) (hok:ok=afOk (gN x.n) x.n.id x.n.pe x.n.ro peer many):
  Calls Tryz.prog 133 #[.agg x,peer,many] w fun e w'=>MsgA w w' ok (afX x.n peer many) e∧Below w.heap.size w w':=by
 have hb:=hg.bnd;refine (implAF_any x.n.id x.n.pe x.n.te x.n.vo x.n.co x.n.ro _ _ _ x.n.log x.n.vs x.n.mt peer many c w hx hb.l hb.v hb.m hb.s).mono ?_;rintro e w' ⟨ue,rfl,ho,hB⟩;rw [show afOk (zn_ x.n.id x.n.pe x.n.te x.n.vo x.n.co x.n.ro x.n.log x.n.vs x.n.mt) x.n.id x.n.pe x.n.ro peer many=ok from hok.symm] at ho ⊢
 cases ok with
 | false=>
  obtain⟨y,hy,rfl,_⟩:=mv_of Ms.zero ho;exact⟨.inr ⟨rfl,y,by rw [hy];rfl⟩,hB⟩
 | true=>
  obtain⟨y,hy,rfl,hp⟩:=mv_of (afX x.n peer many) ho;exact⟨.inl ⟨rfl,y,by rw [hy];rfl,hy,hp⟩,hB⟩
theorem implHMC (x:Nv) (m:Mv) (p:Nat) (c b2 g mc:Nat) (w:World) (hx:PN w c x) (hm:PM w b2 m) (hg:Gd x.n) (hp:x.n.pe=(p:Int)) (hgm:gMs p m.q=true) (hd:m.q.dst=x.n.id) (ok:Bool) (hok:ok=hmOk x.n m.q):
  Calls Tryz.prog 130 #[.agg x,.agg m] w fun e w'=>NodeA w w' ok (hmX x.n m.q) (hmA (hmU x.n m.q.te) m.q) e∧Below w.heap.size w w':=by
 have hP:hmP x.n m.q=true:=by
  unfold hmP;rw [hg.good,hp];have:gMi (p:Int) m.q=true:=hgm;rw [this,hd];simp
 obtain⟨⟨id,pe,te,vo,co,ro,log,vs,mt⟩,la,lc,va,vc,ma,mc'⟩:=x;obtain⟨⟨ki,fr,dst,mte,ix,be,mco,ye,es⟩,ea,ec⟩:=m;have hi0:=hg.i0;have hcap:=own_cap hm;have hn:=OwnN.nns hx;obtain⟨a1,a2,a3,a4,a5,a6,a7⟩:=zt_ hgm;dsimp only at hp hd hi0 hP hok a2 a3 a7 hcap ⊢;subst hp;obtain⟨k,rfl⟩:=Int.eq_ofNat_of_zero_le hi0;obtain rfl:dst=(k:Int):=hd;obtain⟨f,rfl⟩:=Int.eq_ofNat_of_zero_le a2.1;have hix:0≤ix:=by
  rcases kind_in a7 with rfl | rfl | rfl | rfl
  ·exact (kind_1 a7).1.1
  ·have:=(kind_2 a7).1;omega
  ·exact (kind_3 a7).1.1
  ·exact (kind_4 a7).1.1
 obtain⟨q,rfl⟩:=Int.eq_ofNat_of_zero_le hix;refine (implHM_any ki k p te vo co ro la lc va vc ma mc' log vs mt f q mte be mco ye ea ec es w (OwnN.er hx) (OwnN.iv hx) (OwnN.im hx) (yd_ hm rfl) hcap hn.1 hn.2.1 hn.2.2 hP _ rfl _ rfl ok hok).mono ?_;rintro e w' ⟨hA,hB⟩;refine⟨?_,hB⟩;rcases hA with⟨h1,ul,uv,um,ua,rfl,ho,hq⟩ | ⟨h1,rfl⟩
 ·rw [←flatM_bare] at hq;obtain⟨y,hy,rfl,rfl,rfl,hp⟩:=nv_of _ ho;subst h1;have q:=nodeA_of (w:=w) y hy hp (hmA_es _ _) (Nat.le_trans (hmA_len _ _) (by omega)) hq;rw [hy] at q ⊢;exact q
 ·exact .inr ⟨h1,Nv.zero,rfl⟩
theorem withNodeV (lo hi:Nat) (vn vm vl:Value) (N:List Nv) (M:List Mv) (L:List Ld) (x:Nv) (j:Nat) (hid:x.n.id=(j:Int)) (hj:j<N.length) (w:World) (h:OwnC w lo hi vn vm vl N M L) (hx:PN w hi x) (hh:hi≤w.heap.size) (hL:L.length≤1000):
  Calls Tryz.prog 127 #[.agg #[vn,vm,vl],.agg x] w fun e w'=>∃ul,e= .returned (.agg #[vn,vm,ul])∧OwnC w' lo w'.heap.size vn vm ul (N.set j x) M (zB_ L N[j].n x.n)∧Chg (fun b=>vn.ownBlock=some b∨vl.ownBlock=some b) w w':=by
 obtain⟨⟨id,pe,te,vo,co,ro,log,vs,mt⟩,la,lc,va,vc,ma,mc'⟩:=x;dsimp only at hid;subst hid;exact withNode_any lo hi vn vm vl N M L j hj pe te vo co ro la lc va vc ma mc' log vs mt w h hx hh hL

end Go.Proofs.YtapfhhmimkkhnaaGreat
namespace Go.Proofs.YtapfhhmimkkhnaaGreat
open Go.RowKit
set_option linter.unusedVariables false
set_option maxRecDepth 100000
theorem map_at {α β:Type} {f:α→β} {l l':List α} (h:l'.map f=l.map f) (i:Nat) (hi:i<l'.length):∃hi2:i<l.length,f l'[i]=f l[i]:=by
 have hl:l'.length=l.length:=by have:=congrArg List.length h;simpa using this
 refine⟨by omega,?_⟩;have:=congrArg (fun t=>t[i]?) h;simpa [hi,show i<l.length from by omega] using this
theorem CS.same {N N':List Nv} {M M':List Mv} {L:List Ld} (h:CS N M L) (hn:N'.map Nv.n=N.map Nv.n) (hm:M'.map Mv.q=M.map Mv.q):CS N' M' L:=by
 have l1:N'.length=N.length:=by have:=congrArg List.length hn;simpa using this
 have l2:M'.length=M.length:=by have:=congrArg List.length hm;simpa using this
 refine⟨by rw [l1];exact h.n,by rw [l2];exact h.m,h.l,fun i hi=> ?_,fun i hi=> ?_,fun i hi j hj=> ?_,fun i hi j hj=> ?_⟩
 ·obtain⟨h2,e⟩:=map_at hn i hi;rw [e];exact h.ne i h2
 ·obtain⟨h2,e⟩:=map_at hm i hi;rw [e];exact h.me i h2
 ·obtain⟨h2,e⟩:=map_at hn i hi;simp only [e] at hj ⊢;exact h.ns i h2 j hj
 ·obtain⟨h2,e⟩:=map_at hm i hi;simp only [e] at hj ⊢;exact h.ms i h2 j hj
end Go.Proofs.YtapfhhmimkkhnaaGreat
namespace Go.Proofs.YtapfhhmimkkhnaaGreat
open Go.RowKit Go.Maps
set_option linter.unusedVariables false
set_option maxRecDepth 100000
set_option maxHeartbeats 16000000
theorem copyMessage_any (ki fr dst te ix be co:Int) (ye:Bool) (ea:Option Addr) (ec:Nat) (es:List En) (w:World) (he:ER w (.slice ea es.length ec) es) (hn:Nn (.slice ea es.length ec)) (hl:es.length≤1048576):
  Calls Tryz.prog 88 #[.agg #[ki,fr,dst,te,ix,be,.slice ea es.length ec,co,ye]] w fun e w'=>∃ua uc,e= .returned (.agg #[ki,fr,dst,te,ix,be,.slice ua es.length uc,co,ye])∧w'.ownsRow w.heap.size 44 2 (.slice ua es.length uc) es.length (zx_ es)∧Below w.heap.size w w':=by
 obtain⟨W0,hW0,hB,X,Y,hz0⟩:=al2 w [ki,fr,dst,te,ix,be,.slice ea es.length ec,co,ye] 80 zM 80;have K:=fun W (q:Below w.heap.size w W)=>cloneE_any (.slice ea es.length ec) es W (he.below q) hn hl;clear he hn;obtain⟨xl,x0,x1,x2,x3,x4,x5,x6,x7,x8⟩:=X.e9;go_enter Tryz.func88,Tryz.ntmps88;go_upto_region 1 with fail;rw [←hW0];clear hW0;go_wp2_with fail;refine (K _ hB).mono ?_;rintro e w3 ⟨u,rfl,o3,hb3⟩;obtain⟨ua,uc,rfl⟩:=ze_ o3;replace X:=X.below hb3;replace Y:=Y.below hb3;have hz3:=hb3.size;have g3:=zh_ o3;replace hB:=za_ hB hb3;clear K hb3 xl x0 x1 x2 x3 x4 x5 x6 x7 x8;obtain⟨W4,hW4⟩:∃W,W=w3.setCell ⟨w.heap.size,6,none⟩ (.slice ua es.length uc):=⟨_,rfl⟩;have hC4:Chg (fun b=>b=w.heap.size) w3 W4:=by rw [hW4];exact Chg.setCell (S:=fun b=>b=w.heap.size) (Chg.refl _ _) rfl _
 have X4:Box W4 w.heap.size [ki,fr,dst,te,ix,be,.slice ua es.length uc,co,ye]:=by rw [hW4];exact X.set 6 _ (by simp)
 have Y4:=hC4.box Y (by omega);obtain⟨xl,x0,x1,x2,x3,x4,x5,x6,x7,x8⟩:=X.e9;have f6:=X.2.2 6;go_upto_region 2 with fail;rw [←hW4];clear hW4 xl x0 x1 x2 x3 x4 x5 x6 x7 x8 f6 X Y;obtain⟨W5,hW5,hC5,Y5⟩:=zk_ W4 Y4 ki fr dst te ix be (.slice ua es.length uc) co ye;have hC45:Chg (fun b=>b=w.heap.size∨b=w.heap.size+1) w3 W5:=(hC4.mono fun b hb=> .inl hb).trans (hC5.mono fun b hb=> .inr hb);have o5:=zf_ (hC45.owns o3 (fun b hb hh=>by have:=g3 b hb;omega)) (show w.heap.size≤W0.heap.size from by omega);have hB5:=hB.trans (hC45.below (B:=w.heap.size) (by omega) (fun b hb=>by omega));clear hC5 hC45 hC4 o3 hB g3;obtain⟨xl,x0,x1,x2,x3,x4,x5,x6,x7,x8⟩:=X4.e9;obtain⟨yyl,y0,y1,y2,y3,y4,y5,y6,y7,y8⟩:=Y4.e9;obtain⟨f0,f1,f2,f3,f4,f5,f6,f7,f8⟩:=Y4.f9;clear X4 Y4;obtain⟨zl,t0,t1,t2,t3,t4,t5,t6,t7,t8⟩:=Y5.e9;clear Y5;unfold put9 at*;go_wp2;rw [←hW5];exact bodyPost_ret (v:= .agg #[ki,fr,dst,te,ix,be,.slice ua es.length uc,co,ye]) (by simp [results,Tryz.results88,go_sem,t0,t1,t2,t3,t4,t5,t6,t7,t8]) rfl ⟨_,_,rfl,o5,hB5⟩
theorem set_mid {α:Type} (P l:List α) (k:Nat) (hp:P.length=k) (hk:k<l.length) (x:α):(P++l.drop k).set k x=(P++ [x])++l.drop (k+1):=by
 subst hp;rw [List.set_append_right _ _ (Nat.le_refl _),Nat.sub_self,List.drop_eq_getElem_cons hk,sB_,List.append_assoc]
 rfl
theorem mid_at {α:Type} (P l:List α) (k:Nat) (hp:P.length=k) (hk:k<l.length):∃h:k<(P++l.drop k).length,(P++l.drop k)[k]=l[k]:=by
 subst hp;refine⟨by simp;omega,?_⟩;rw [List.getElem_append_right (Nat.le_refl _)];simp
theorem mid_len {α:Type} (P l:List α) (k:Nat) (hp:P.length=k) (hk:k≤l.length):(P++l.drop k).length=l.length:=by
 subst hp;simp;omega
theorem map_more {α β:Type} (f:α→β) (P l:List α) (k:Nat) (hk:k<l.length) (h:P.map f=(l.take k).map f) (x:α) (hx:f x=f l[k]):(P++ [x]).map f=(l.take (k+1)).map f:=by
 rw [List.map_append,h,List.take_succ_eq_append_getElem hk,List.map_append,List.map_singleton,List.map_singleton,hx]
end Go.Proofs.YtapfhhmimkkhnaaGreat
