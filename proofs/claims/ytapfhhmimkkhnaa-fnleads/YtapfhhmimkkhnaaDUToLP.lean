/-
  The draws of UpToDate and of ProposeNode.
  What all have committed: entries compared, the plain side, l12Common.
  Bools in a row: eqBoolS, markBoolS, heldBoolS.
  What is the same is said to be: sameEntries, sameInts, sameBools, sameNodes.
  Two slices of one message each, the same: sameMsgs.
  What FnLeads says, plainly; the calls in one form.
-/
import Derived.Test.YtapfhhmimkkhnaaDN
import Derived.Test.YtapfhhmimkkhnaaM3bToCO
import Derived.Test.YtapfhhmimkkhnaaN1ToA3
import Derived.Test.YtapfhhmimkkhnaaA4ToU1
import Derived.Test.YtapfhhmimkkhnaaQ3ToQD
import Derived.Laws.StructEq
import Derived.Test.YtapfhhmimkkhnaaRF5ToP1
import Derived.OwnWalk
import Derived.Deep.QuietTactic
import Derived.Deep.Cut
import Derived.Test.YtapfhhmimkkhnaaCA
import Derived.Test.YtapfhhmimkkhnaaDK
import Derived.Test.YtapfhhmimkkhnaaDA
import Derived.Test.YtapfhhmimkkhnaaDP
import Derived.Test.YtapfhhmimkkhnaaQFToNS
import Derived.Test.YtapfhhmimkkhnaaM2bToH0
namespace Go.Proofs.Ytapfhhmimkkhnaa
open Go.RowKit Go.Maps
set_option linter.unusedVariables false
set_option maxRecDepth 100000
set_option maxHeartbeats 16000000
theorem drawUT_any (v:Value) (l:List UInt8) (w:World) (h:YL w v l) (hl:l.length≤9223372036854775807):
  Calls Try.prog 20 #[v] w fun e w'=>(∃(id pe te vo co ro:Int) (log:List En) (vs mt:List Int) (la:Option Addr) (lc:Nat) (va:Option Addr) (vc:Nat) (ma:Option Addr) (mc:Nat) (ix tm:Int),e= .returned (.tuple #[.agg #[id,pe,te,vo,.slice la log.length lc,co,ro,.slice va vs.length vc,.slice ma mt.length mc],ix,tm])∧w'.ownsRow w.heap.size 34 2 (.slice la log.length lc) log.length (zE_ log)∧w'.ownsRow w.heap.size 3 1 (.slice va vs.length vc) vs.length (vs.map (.int .i64))∧w'.ownsRow w.heap.size 3 1 (.slice ma mt.length mc) mt.length (mt.map (.int .i64))∧log.length≤60∧vs.length≤8∧mt.length≤8∧∀i (h:i<log.length),log[i].d.size≤1048576)∧Below w.heap.size w w':=by
 obtain⟨a0,c0,hv⟩:∃a c,v= .slice a l.length c:=by obtain⟨a,c,h1,_⟩:=h;exact⟨a,c,h1⟩
 subst hv;obtain⟨W1,hW1⟩:∃W,W=w.alloc (.cells zN 26):=⟨_,rfl⟩;have hB:Below w.heap.size w W1:=by rw [hW1];exact zc_ _ _
 have R:Box W1 w.heap.size zN:=by rw [hW1];exact Box.new w zN 26
 have hzW:W1.heap.size=w.heap.size+1:=by rw [hW1];simp
 replace h:=h.below hB;have hc:=cur_new h;obtain⟨W0,hW0⟩:∃W,W=W1.alloc (.cells #[.slice a0 l.length c0,(0:Int),.int .u64 0] 87):=⟨_,rfl⟩;have hBc:Below W1.heap.size W1 W0:=by rw [hW0];exact zc_ _ _
 rw [←hW0] at hc;have hz0:W1.heap.size<W0.heap.size:=by rw [hW0];simp
 replace R:=R.below hBc;replace hB:=za_ hB hBc;rw [hzW] at hc hz0;go_enter Try.func20,Try.ntmps20;go_upto_region 2 with fail;rw [←hW1,←hW0];obtain⟨b,hb⟩:∃b,Hid (w.heap.size+1=b):=⟨_,rfl⟩;have hbw1:w.heap.size+1≤b:=by have:=hb.out;omega
 have hbw2:b≤w.heap.size+1:=by have:=hb.out;omega
 rw [hb.out] at hc hz0 ⊢;clear hW1 hW0 hBc h hzW hb;go_wp2_with fail;refine (node_any b l 0 _ hc hl (by omega)).mono ?_;rintro e w3 ⟨⟨id,pe,te,vo,co,ro,log,vs,mt,la,lc,va,vc,ma,mc,rfl,oL,oV,oM,nl,nv,nm,ns⟩,hc1,hch1⟩;replace R:=hch1.box R (by omega);replace hB:=hB.trans (hch1.b1 (B:=w.heap.size) (by omega) (by omega));replace hc:=hc1;have hz3:=hch1.size;clear hc1 hch1;go_wp2_with fail;refine (zl_ b l _ 6 _ hc hl (by omega) (by omega)).mono ?_;rintro e w4 ⟨⟨p1,rfl,hp1⟩,hc1,hch1⟩;replace R:=hch1.box R (by omega);replace oL:=hch1.owns oL (fun k hk e=>by have e:k=b:=e;have:=ze_ oL k hk;omega);replace oV:=hch1.owns oV (fun k hk e=>by have e:k=b:=e;have:=ze_ oV k hk;omega);replace oM:=hch1.owns oM (fun k hk e=>by have e:k=b:=e;have:=ze_ oM k hk;omega);replace hB:=hB.trans (hch1.b1 (B:=w.heap.size) (by omega) (by omega));replace hc:=hc1;have hzw4:=hch1.size;clear hc1 hch1;go_wp2_with fail;refine (zl_ b l _ 5 _ hc hl (by omega) (by omega)).mono ?_;rintro e w5 ⟨⟨p2,rfl,hp2⟩,hc1,hch1⟩;replace R:=hch1.box R (by omega);replace oL:=hch1.owns oL (fun k hk e=>by have e:k=b:=e;have:=ze_ oL k hk;omega);replace oV:=hch1.owns oV (fun k hk e=>by have e:k=b:=e;have:=ze_ oV k hk;omega);replace oM:=hch1.owns oM (fun k hk e=>by have e:k=b:=e;have:=ze_ oM k hk;omega);replace hB:=hB.trans (hch1.b1 (B:=w.heap.size) (by omega) (by omega));replace hc:=hc1;have hzw5:=hch1.size;clear hc1 hch1;go_wp2_with fail;refine (zl_ b l _ 2 _ hc hl (by omega) (by omega)).mono ?_;rintro e w6 ⟨⟨p3,rfl,hp3⟩,hc1,hch1⟩;replace R:=hch1.box R (by omega);replace oL:=hch1.owns oL (fun k hk e=>by have e:k=b:=e;have:=ze_ oL k hk;omega);replace oV:=hch1.owns oV (fun k hk e=>by have e:k=b:=e;have:=ze_ oV k hk;omega);replace oM:=hch1.owns oM (fun k hk e=>by have e:k=b:=e;have:=ze_ oM k hk;omega);replace hB:=hB.trans (hch1.b1 (B:=w.heap.size) (by omega) (by omega));replace hc:=hc1;have hzw6:=hch1.size;clear hc1 hch1;obtain⟨e1,e2⟩:(0:Int)≤(p1:Int)∧(p1:Int)≤5:=by omega
 obtain⟨e3,e4⟩:(0:Int)≤(p2:Int)∧(p2:Int)≤4:=by omega
 obtain⟨e5,e6⟩:(0:Int)≤(p3:Int)∧(p3:Int)≤1:=by omega
 clear hp1 hp2 hp3;obtain⟨W7,hW7,hC7,R7⟩:=zj_ w6 R id pe te vo (.slice la log.length lc) co ro (.slice va vs.length vc) (.slice ma mt.length mc);obtain⟨sl,s0,s1,s2,s3,s4,s5,s6,s7,s8⟩:=R.e9;obtain⟨f0,f1,f2,f3,f4,f5,f6,f7,f8⟩:=R.f9;have hB7:=hB.trans (hC7.b1 (B:=w.heap.size) (by omega) (by omega));have q7:∀ {t sz n:Nat} {v:Value} {xs:List Value},w6.ownsRow W0.heap.size t sz v n xs→W7.ownsRow w.heap.size t sz v n xs:=fun h=>zg_ (hC7.owns h (fun k hk e=>by have e:k=w.heap.size:=e;have:=ze_ h k hk;omega)) (by omega);have oL7:=q7 oL;have oV7:=q7 oV;have oM7:=q7 oM;have HF:Hid ((∃(id2 pe2 te2 vo2 co2 ro2:Int) (log2:List En) (vs2 mt2:List Int) (la2:Option Addr) (lc2:Nat) (va2:Option Addr) (vc2:Nat) (ma2:Option Addr) (mc2:Nat) (ix tm:Int),Ending.returned (.tuple #[.agg #[id,pe,te,vo,.slice la log.length lc,co,ro,.slice va vs.length vc,.slice ma mt.length mc],((p1:Int)-1:Int),((p2:Int)-(p3:Int):Int)])= .returned (.tuple #[.agg #[id2,pe2,te2,vo2,.slice la2 log2.length lc2,co2,ro2,.slice va2 vs2.length vc2,.slice ma2 mt2.length mc2],ix,tm])∧W7.ownsRow w.heap.size 34 2 (.slice la2 log2.length lc2) log2.length (zE_ log2)∧W7.ownsRow w.heap.size 3 1 (.slice va2 vs2.length vc2) vs2.length (vs2.map (.int .i64))∧W7.ownsRow w.heap.size 3 1 (.slice ma2 mt2.length mc2) mt2.length (mt2.map (.int .i64))∧log2.length≤60∧vs2.length≤8∧mt2.length≤8∧∀i (h:i<log2.length),log2[i].d.size≤1048576)∧Below w.heap.size w W7):=⟨⟨_,_,_,_,_,_,_,_,_,_,_,_,_,_,_,_,_,rfl,oL7,oV7,oM7,nl,nv,nm,ns⟩,hB7⟩;obtain⟨tl,t0,t1,t2,t3,t4,t5,t6,t7,t8⟩:=R7.e9;clear R hC7 R7 hB hc oL oV oM oL7 oV7 oM7 q7 hB7 nl nv nm ns;unfold put9 at hW7;go_wp2_with fail;rw [←hW7];exact bodyPost_ret (v:= .tuple #[.agg #[id,pe,te,vo,.slice la log.length lc,co,ro,.slice va vs.length vc,.slice ma mt.length mc],((p1:Int)-1:Int),((p2:Int)-(p3:Int):Int)]) (by simp [results,Try.results20,go_sem,t0,t1,t2,t3,t4,t5,t6,t7,t8]) rfl HF.out
set_option maxHeartbeats 200000
theorem stood34:Try.prog.stoodInHeld 34=false:=by kernel_rfl
theorem eqFields_nil (d:Nat) (xs ys:Array Value) (P:Program) (w:World):(Op.eqFields d xs ys []).run P w= .ok true w:=rfl
theorem eqFields_cons {d:Nat} {xs ys:Array Value} {f:Field} {fs:List Field} {P:Program} {w:World} {x y:Value} {r:Bool} (hn:f.name≠ "_") (hx:(Go.part f.type xs f.offset).run P w= .ok x w) (hy:(Go.part f.type ys f.offset).run P w= .ok y w) (he:(Op.equalIn d f.type x y).run P w= .ok r w):
  (Op.eqFields d xs ys (f::fs)).run P w=if r=true then (Op.eqFields d xs ys fs).run P w else .ok false w:=by
 rw [Op.eqFields,if_pos hn];simp only [Sem.run_bind,hx,hy,he,Result.andThen_ok]
 cases r <;>simp
def fT:Field:= { name:= "Term",type:=3,offset:=0,embedded:=false,tag:= "",pkgPath:= "",byteOffset:=0 }
def fD:Field:= { name:= "Data",type:=9,offset:=1,embedded:=false,tag:= "",pkgPath:= "",byteOffset:=8 }
theorem fields34:Try.prog.fieldsOf 34=#[fT,fD]:=by unfold Program.fieldsOf;rw [Try.underlying34];rfl
theorem part9 (xs:Array Value) (i:Nat) (x:Value) (w:World) (h:xs[i]? =some x):(Go.part 9 xs i).run Try.prog w= .ok x w:=by simp [Go.part,isAgg,run_underlying Try.underlying9,h]
theorem part3 (xs:Array Value) (i:Nat) (x:Value) (w:World) (h:xs[i]? =some x):(Go.part 3 xs i).run Try.prog w= .ok x w:=by simp [Go.part,isAgg,run_underlying Try.underlying3,h]
def enEq (a b:En):Bool:=(a.t==b.t)&&(a.d.toList==b.d.toList)
theorem equalEnt (a b:En) (w:World):(Op.equalIn (9999+1) 34 (.agg #[a.t,a.d]) (.agg #[b.t,b.d])).run Try.prog w= .ok (enEq a b) w:=by
 have hu:Try.prog.underlying 34=some (.struct (Try.prog.fieldsOf 34)):=by rw [fields34];exact Try.underlying34
 rw [run_equalIn_struct w 9999 34 _ _ hu stood34,fields34];have h1:=eqFields_cons (d:=9999) (xs:=#[a.t,a.d]) (ys:=#[b.t,b.d]) (f:=fT) (fs:= [fD]) (x:= .int .i64 a.t) (y:= .int .i64 b.t) (by decide) (part3 _ 0 _ w rfl) (part3 _ 0 _ w rfl) (run_equalIn_int w 9998 3 .i64 .i64 _ _ Try.underlying3);have h2:=eqFields_cons (d:=9999) (xs:=#[a.t,a.d]) (ys:=#[b.t,b.d]) (f:=fD) (fs:= []) (x:= .string a.d) (y:= .string b.d) (by decide) (part9 _ 1 _ w rfl) (part9 _ 1 _ w rfl) (run_equalIn_string w 9998 9 _ _ Try.underlying9);show (Op.eqFields 9999 _ _ [fT,fD]).run Try.prog w=_;rw [h1,h2,eqFields_nil];unfold enEq
 cases (a.t==b.t) <;>cases (a.d.toList==b.d.toList) <;>rfl
theorem neqEntV (a b:En) (w:World):(binOp .neq 34 (.agg #[a.t,a.d]) (.agg #[b.t,b.d])).run Try.prog w= .ok (.bool (!enEq a b)) w:=by
 rw [run_neq_struct];show (Sem.run Try.prog (Op.equalIn (9999+1) 34 _ _) w).andThen _=_;rw [equalEnt]
 rfl
def eqAt (a b:List En) (j:Nat):Bool:=if h:j<a.length∧j<b.length then enEq a[j] b[j] else false
def okN (L0:List En) (x:Nd) (j:Nat):Bool:=decide ((j:Int)<x.co)&&eqAt L0 x.log j
def IsCm (L0:List En) (N:List Nd) (m:Nat):Prop:=(∀j,j<m→∀i (h:i<N.length),okN L0 N[i] j=true)∧∃i,∃h:i<N.length,okN L0 N[i] m=false
theorem IsCm.one {L0:List En} {N:List Nd} {m m':Nat} (h:IsCm L0 N m) (h':IsCm L0 N m'):m=m':=by
 obtain⟨i,hi,e⟩:=h.2;obtain⟨i',hi',e'⟩:=h'.2;by_cases h1:m<m'
 ·have:=h'.1 m h1 i hi;rw [e] at this;cases this
 ·by_cases h2:m'<m
  ·have:=h.1 m' h2 i' hi';rw [e'] at this;cases this
  ·omega
open Classical in
theorem below_drewN {B:Nat} {w w':World} (h:Below B w w') (q:Nat):Below B w (w'.drewN q):=by
 induction q with
 | zero=>exact h
 | succ q ih=>exact ih.drew
end Go.Proofs.Ytapfhhmimkkhnaa
namespace Go.Proofs.Ytapfhhmimkkhnaa
open Go.RowKit
set_option linter.unusedVariables false
set_option maxRecDepth 100000
def BR (w:World) (v:Value) (D:List Bool):Prop:=
 ∃a cap,v= .slice a D.length cap∧(D≠ []→∃b,a=some ⟨b,0,none⟩∧b<w.heap.size∧∀i (h:i<D.length),w.cell? ⟨b,i,none⟩=some (.bool D[i]))
theorem BR.below {w w':World} {v:Value} {D:List Bool} (h:BR w v D) (hb:Below w.heap.size w w'):BR w' v D:=by
 obtain⟨a,cap,hv,hc⟩:=h;refine⟨a,cap,hv,fun hl=> ?_⟩;obtain⟨b,ha,hbl,hcell⟩:=hc hl;exact⟨b,ha,Nat.lt_of_lt_of_le hbl hb.size,fun i hi=>(hb.cell (p:=⟨b,i,none⟩) hbl).trans (hcell i hi)⟩
end Go.Proofs.Ytapfhhmimkkhnaa
namespace Go.Proofs.Ytapfhhmimkkhnaa
open Go.RowKit Go.Maps
set_option linter.unusedVariables false
set_option maxRecDepth 100000
set_option maxHeartbeats 8000000
theorem yg_ (u v:Value) (l:List En) (w:World) (hu:ER w u l) (hv:ER w v l) (hn:l.length≤1048576):
  Calls Try.prog 14 #[u,v] w fun e w'=>e= .returned (.bool true)∧Below w.heap.size w w':=by
 obtain⟨a,cap,rfl,hc⟩:=hu;obtain⟨a',cap',rfl,hc'⟩:=hv;go_enter Try.func14,Try.ntmps14;go_wp2
 go_loopw [13] (fun i wr=>∃k:Nat,k≤l.length∧i= .int .i64 k∧Below w.heap.size w wr) (fun i _=>l.length-(intOf i).toNat)
 case atStart=>exact⟨0,Nat.zero_le _,rfl,Below.refl _ _⟩
 case round=>
  obtain⟨k,hk,rfl,hb⟩:=hrel;by_cases hlt:k<l.length
  ·obtain⟨b,off,rfl,hbl,hcell⟩:=hc (by intro e;simp [e] at hlt);obtain⟨b',off',rfl,hbl',hcell'⟩:=hc' (by intro e;simp [e] at hlt);have hc0:=(hb.cell (p:=⟨b,off+k*2,none⟩) hbl).trans (hcell k hlt).1;have hc1:=(hb.cell (p:=⟨b,off+k*2+1,none⟩) hbl).trans (hcell k hlt).2;have hd0:=(hb.cell (p:=⟨b',off'+k*2,none⟩) hbl').trans (hcell' k hlt).1;have hd1:=(hb.cell (p:=⟨b',off'+k*2+1,none⟩) hbl').trans (hcell' k hlt).2;clear hcell hcell' hc hc';have EV:=fun W=>neqEntV l[k] l[k] W;rw [show enEq l[k] l[k]=true from by simp [enEq]] at EV;simp only [Bool.not_true] at EV;generalize l[k].t=t0 at*;generalize l[k].d=d0 at*;go_wp2_with fail
   go_quiet (fail)
   go_wp2;go_roundw
   case rel=>exact⟨k+1,by omega,by go_num,below_drewN hb _⟩
   case measure=>simp [intOf];omega
  ·clear hc hc';go_wp2;go_ret;exact⟨rfl,hb⟩
theorem sameInts_same (u v:Value) (l:List Int) (w:World) (hu:IL w u l) (hv:IL w v l) (hn:l.length≤1048576):
  Calls Try.prog 62 #[u,v] w fun e w'=>e= .returned (.bool true)∧Below w.heap.size w w':=by
 obtain⟨a,cap,rfl,hc⟩:=hu;obtain⟨a',cap',rfl,hc'⟩:=hv;go_enter Try.func62,Try.ntmps62;go_wp2
 go_loopw [13] (fun i wr=>∃k:Nat,k≤l.length∧i= .int .i64 k∧Below w.heap.size w wr) (fun i _=>l.length-(intOf i).toNat)
 case atStart=>exact⟨0,Nat.zero_le _,rfl,Below.refl _ _⟩
 case round=>
  obtain⟨k,hk,rfl,hb⟩:=hrel;by_cases hlt:k<l.length
  ·obtain⟨b,off,rfl,hbl,hcell⟩:=hc (by intro e;simp [e] at hlt);obtain⟨b',off',rfl,hbl',hcell'⟩:=hc' (by intro e;simp [e] at hlt);have hc0:wr.cell? ⟨b,off+k,none⟩=some (.int .i64 l[k]):=(hb.cell (p:=⟨b,off+k,none⟩) hbl).trans (hcell k hlt);have hd0:wr.cell? ⟨b',off'+k,none⟩=some (.int .i64 l[k]):=(hb.cell (p:=⟨b',off'+k,none⟩) hbl').trans (hcell' k hlt);clear hcell hcell' hc hc';generalize l[k]=c at*;go_wp2_with fail
   go_quiet (fail)
   go_wp2;go_roundw
   case rel=>exact⟨k+1,by omega,by go_num,below_drewN hb _⟩
   case measure=>simp [intOf];omega
  ·clear hc hc';go_wp2;go_ret;exact⟨rfl,hb⟩
theorem sameNodes_same (id pe te vo co ro:Int) (ul uv um vl vv vm:Value) (log:List En) (vs mt:List Int) (w:World) (h1:ER w ul log) (h2:IL w uv vs) (h3:IL w um mt) (h4:ER w vl log) (h5:IL w vv vs) (h6:IL w vm mt) (n1:log.length≤1048576) (n2:vs.length≤1048576) (n3:mt.length≤1048576):
  Calls Try.prog 13 #[.agg #[id,pe,te,vo,ul,co,ro,uv,um],.agg #[id,pe,te,vo,vl,co,ro,vv,vm]] w fun e w'=>e= .returned (.bool true)∧Below w.heap.size w w':=by
 obtain⟨W0,hW0,hB,X,Y,_⟩:=al2 w [id,pe,te,vo,ul,co,ro,uv,um] 26 [id,pe,te,vo,vl,co,ro,vv,vm] 26;have K1:=fun W (q:Below w.heap.size w W)=>yg_ ul vl log W (h1.below q) (h4.below q) n1;have K2:=fun W (q:Below w.heap.size w W)=>sameInts_same uv vv vs W (h2.below q) (h5.below q) n2;have K3:=fun W (q:Below w.heap.size w W)=>sameInts_same um vm mt W (h3.below q) (h6.below q) n3;obtain⟨la,lc,rfl,_⟩:=h1;obtain⟨va,vc,rfl,_⟩:=h2;obtain⟨ma,mc,rfl,_⟩:=h3;obtain⟨la',lc',rfl,_⟩:=h4;obtain⟨va',vc',rfl,_⟩:=h5;obtain⟨ma',mc',rfl,_⟩:=h6;obtain⟨xl,x0,x1,x2,x3,x4,x5,x6,x7,x8⟩:=X.e9;obtain⟨yl,y0,y1,y2,y3,y4,y5,y6,y7,y8⟩:=Y.e9;go_enter Try.func13,Try.ntmps13;go_wp2_with fail;rw [←hW0];clear hW0;refine (K1 _ hB).mono ?_;rintro e w1 ⟨rfl,hb⟩;replace hB:=za_ hB hb;replace X:=X.below hb;replace Y:=Y.below hb;clear hb;clear xl x0 x1 x2 x3 x4 x5 x6 x7 x8 yl y0 y1 y2 y3 y4 y5 y6 y7 y8;obtain⟨xl,x0,x1,x2,x3,x4,x5,x6,x7,x8⟩:=X.e9;obtain⟨yl,y0,y1,y2,y3,y4,y5,y6,y7,y8⟩:=Y.e9;go_wp2_with fail;refine (K2 _ hB).mono ?_;rintro e w2 ⟨rfl,hb⟩;replace hB:=za_ hB hb;replace X:=X.below hb;replace Y:=Y.below hb;clear hb;clear xl x0 x1 x2 x3 x4 x5 x6 x7 x8 yl y0 y1 y2 y3 y4 y5 y6 y7 y8;obtain⟨xl,x0,x1,x2,x3,x4,x5,x6,x7,x8⟩:=X.e9;obtain⟨yl,y0,y1,y2,y3,y4,y5,y6,y7,y8⟩:=Y.e9;go_wp2_with fail;refine (K3 _ hB).mono ?_;rintro e w3 ⟨rfl,hb⟩;replace hB:=za_ hB hb;replace X:=X.below hb;replace Y:=Y.below hb;clear hb;clear xl x0 x1 x2 x3 x4 x5 x6 x7 x8 yl y0 y1 y2 y3 y4 y5 y6 y7 y8;clear X Y K1 K2 K3;go_wp2;go_ret;exact⟨rfl,hB⟩
theorem run_neq_bM (w:World) (b:Bool):(binOp .neq 4 (.bool b) (.bool b)).run Try.prog w= .ok (.bool false) w:=by
 cases b <;>kernel_rfl
theorem sameMsgs_one (b b':Nat) (ki fr dst te ix be co:Int) (ye:Bool) (ua ub:Option Addr) (uc ud:Nat) (es:List En) (w:World) (X:Box w b [ki,fr,dst,te,ix,be,.slice ua es.length uc,co,ye]) (Y:Box w b' [ki,fr,dst,te,ix,be,.slice ub es.length ud,co,ye]) (hE:ER w (.slice ua es.length uc) es) (hF:ER w (.slice ub es.length ud) es) (hn:es.length≤1048576):
  Calls Try.prog 18 #[.slice (some ⟨b,0,none⟩) 1 1,.slice (some ⟨b',0,none⟩) 1 1] w fun e w'=>e= .returned (.bool true)∧Below w.heap.size w w':=by
 have NB:=fun W=>run_neq_bM W ye;go_enter Try.func18,Try.ntmps18;go_wp2_with fail
 go_loopw [15] (fun i wr=>∃k:Nat,k≤1∧i= .int .i64 k∧Below w.heap.size w wr) (fun i _=>1-(intOf i).toNat)
 case atStart=>exact⟨0,Nat.zero_le _,rfl,Below.refl _ _⟩
 case round=>
  obtain⟨k,hk,rfl,hb⟩:=hrel;by_cases hlt:k<1
  ·obtain rfl:k=0:=by omega
   replace X:=X.below hb;replace Y:=Y.below hb;have hE1:=hE.below hb;have hF1:=hF.below hb;have B1:=zc_ wr (.cells #[ki,fr,dst,te,ix,be,.slice ua es.length uc,co,ye] 38);have P:=Box.new wr #[ki,fr,dst,te,ix,be,.slice ua es.length uc,co,ye] 38;obtain⟨w1,hw1⟩:∃W,W=wr.alloc (.cells #[ki,fr,dst,te,ix,be,.slice ua es.length uc,co,ye] 38):=⟨_,rfl⟩;have hz1:w1.heap.size=wr.heap.size+1:=by rw [hw1];simp
   rw [←hw1] at P B1;have Y1:=Y.below B1;have B2:=zc_ w1 (.cells #[ki,fr,dst,te,ix,be,.slice ub es.length ud,co,ye] 38);have Q:=Box.new w1 #[ki,fr,dst,te,ix,be,.slice ub es.length ud,co,ye] 38;obtain⟨w2,hw2⟩:∃W,W=w1.alloc (.cells #[ki,fr,dst,te,ix,be,.slice ub es.length ud,co,ye] 38):=⟨_,rfl⟩;rw [←hw2] at Q B2;have P2:=P.below B2;have hB2:=za_ (za_ hb B1) B2;have hE2:=(hE1.below B1).below B2;have hF2:=(hF1.below B1).below B2;have KE:=fun W (q:Below w2.heap.size w2 W)=>yg_ _ _ es W (hE2.below q) (hF2.below q) hn;obtain⟨xl,x0,x1,x2,x3,x4,x5,x6,x7,x8⟩:=X.e9;obtain⟨yl,y0,y1,y2,y3,y4,y5,y6,y7,y8⟩:=Y1.e9;obtain⟨yl0,yy0,yy1,yy2,yy3,yy4,yy5,yy6,yy7,yy8⟩:=Y.e9;clear X Y Y1 hE1 hF1 B1 B2 hE2 hF2 yy0 yy1 yy2 yy3 yy4 yy5 yy6 yy7 yy8 yl0;have hz1b:wr.heap.size<w1.heap.size:=by omega
   clear hz1;go_upto_region 7 with fail;rw [←hw1];clear hw1 x0 x1 x2 x3 x4 x5 x6 x7 x8 xl;go_upto_region 8 with fail;rw [←hw2];clear hw2 y0 y1 y2 y3 y4 y5 y6 y7 y8 yl;obtain⟨pl,p0,p1,p2,p3,p4,p5,p6,p7,p8⟩:=P2.e9;obtain⟨ql,q0,q1,q2,q3,q4,q5,q6,q7,q8⟩:=Q.e9;generalize wr.heap.size=gp at*;generalize w1.heap.size=gq at*;clear P P2 Q;go_wp2_with fail;refine (KE _ (Below.refl _ _)).mono ?_;rintro e w3 ⟨rfl,hb3⟩;have hB3:=za_ hB2 hb3;clear KE p0 p1 p2 p3 p4 p5 p6 p7 p8 q0 q1 q2 q3 q4 q5 q6 q7 q8 hb3 hB2;go_wp2;go_roundw
   case rel=>exact⟨1,by omega,by go_num,hB3⟩
   case measure=>simp [intOf]
  ·obtain rfl:k=1:=by omega
   clear X Y hE hF;go_wp2;go_ret;exact⟨rfl,hb⟩
set_option maxHeartbeats 200000
theorem af_facts {x:Nd} {peer many:Int} (ho:afOk (gN x) x.id x.pe x.ro peer many=true):∃p:Nat,(afX x peer many).ix=(p:Int)∧p+(afX x peer many).es.length≤x.log.length∧((afX x peer many).es.length:Int)≤many∧(afX x peer many).es=(x.log.drop p).take (afX x peer many).es.length∧goodM x.pe (afX x peer many).ki (afX x peer many).fr (afX x peer many).dst (afX x peer many).te (afX x peer many).ix (afX x peer many).be (afX x peer many).co (afX x peer many).ye (afX x peer many).es=true:=by
 have ho':=ho;simp only [afOk,isP,Bool.and_eq_true,decide_eq_true_eq,Bool.not_eq_true',decide_eq_false_iff_not] at ho';obtain⟨hg,hr,⟨b1,b2⟩,b3,b4,b5⟩:=ho';have hgd:=Gd.of hg;have hp1:=hgd.p1;obtain⟨pn,hpn⟩:=Int.eq_ofNat_of_zero_le (show 0≤x.pe from by omega);have hM:=afX_good (p:=pn) hgd hpn ho;obtain⟨_,_,_,hml,hmg,_⟩:=hgd.r2 hr;have hi:peer.toNat<x.mt.length:=by omega
 obtain⟨q0,q1⟩:=gM_all hmg peer.toNat hi;have hget:x.mt.getD peer.toNat 0=x.mt[peer.toNat]:=by simp [List.getD,hi]
 obtain⟨p,hp⟩:=Int.eq_ofNat_of_zero_le q0;have hix:(afX x peer many).ix=(p:Int):=by show x.mt.getD peer.toNat 0=_;rw [hget,hp]
 have hes:(afX x peer many).es=(x.log.drop p).take (min many.toNat (x.log.length-p)):=by
  show afE x.log (x.mt.getD peer.toNat 0).toNat many.toNat=_;rw [hget,hp];rfl
 have hlen:(afX x peer many).es.length=min many.toNat (x.log.length-p):=by rw [hes,List.length_take,List.length_drop];omega
 refine⟨p,hix,by rw [hlen];omega,by rw [hlen];omega,by rw [hlen];exact hes,?_⟩;rw [hpn];exact hM
theorem pr_facts {x:Nd} {d:ByteArray} (ho:prOk (gN x) x.ro x.log.length d=true):(prX x d).log=x.log++ [⟨x.te,d⟩]∧(prX x d).log.length=x.log.length+1:=by
 constructor
 ·rfl
 ·show (x.log++ [_]).length=_;simp
def prZ (ok:Bool) (x:Nd) (d:ByteArray):Nd:=prN ok x.id x.pe x.te x.vo x.co x.log x.vs x.mt d
theorem prZ_bd {ok:Bool} {x:Nd} {d:ByteArray} (h:Bd x) (hd:d.size≤1048576):(prZ ok x d).log.length≤61∧(prZ ok x d).vs.length≤7∧(prZ ok x d).mt.length≤7:=by
 cases ok with
 | false=>exact⟨by show ([]:List En).length≤61;simp,by show ([]:List Int).length≤7;simp,by show ([]:List Int).length≤7;simp⟩
 | true=>exact⟨by show (x.log++ [_]).length≤61;have:=h.l;simp;omega,h.v,by show (x.mt.set _ _).length≤7;rw [List.length_set];exact h.m⟩
def afZ (ok:Bool) (x:Nd) (peer many:Int):Ms:=afM ok x.id x.te x.co peer many x.log x.mt
theorem afZ_bd {ok:Bool} {x:Nd} {peer many:Int} (h:Bd x):(afZ ok x peer many).es.length≤60:=by
 cases ok with
 | false=>show ([]:List En).length≤60;simp
 | true=>show (afE x.log _ _).length≤60;unfold afE;rw [List.length_take,List.length_drop];have:=h.l;omega
theorem afZ_sz {ok:Bool} {x:Nd} {peer many:Int} (h:Bd x):∀i (hi:i<(afZ ok x peer many).es.length),(afZ ok x peer many).es[i].d.size≤1048576:=by
 cases ok with
 | false=>intro i hi;exact absurd hi (by show ¬i<([]:List En).length;simp)
 | true=>
  intro i hi;have hm:(afZ true x peer many).es[i]∈x.log:=by
   have:=List.getElem_mem hi;exact List.mem_of_mem_drop (List.mem_of_mem_take this)
  obtain⟨j,hj,e⟩:=List.getElem_of_mem hm;rw [←e];exact h.s j hj
theorem implPropL (x:Nv) (d:ByteArray) (c:Nat) (w:World) (hx:PN w c x) (hb:Bd x.n) (hd:d.size≤1048576):
  Calls Try.prog 11 #[.agg x,d] w fun e w'=>∃z:Nv,e= .returned (.tuple #[.agg z,(prI (prOk (gN x.n) x.n.ro x.n.log.length d) x.n.log.length:Int),.bool (prOk (gN x.n) x.n.ro x.n.log.length d)])∧z.n=prZ (prOk (gN x.n) x.n.ro x.n.log.length d) x.n d∧PN w' w.heap.size z∧Below w.heap.size w w':=by
 refine (implProp_any x.n.id x.n.pe x.n.te x.n.vo x.n.co x.n.ro _ _ _ x.n.log x.n.vs x.n.mt d c w hx (by have:=hb.l;omega) (by have:=hb.v;omega) (by have:=hb.m;omega) hb.s hd).mono ?_;rintro e w' ⟨ul,uv,um,rfl,ho,hB⟩;obtain⟨z,hz,rfl,rfl,rfl,hp⟩:=nv_of (prZ (prOk (gN x.n) x.n.ro x.n.log.length d) x.n d) ho;exact⟨z,by rw [hz];rfl,hz,hp,hB⟩
theorem specPropL (x:Nv) (d:ByteArray) (c:Nat) (w:World) (hx:PN w c x) (hb:Bd x.n) (hd:d.size≤1048576):
  Calls Try.prog 12 #[.agg x,d] w fun e w'=>∃z:Nv,e= .returned (.tuple #[.agg z,(prI (prOk (gN x.n) x.n.ro x.n.log.length d) x.n.log.length:Int),.bool (prOk (gN x.n) x.n.ro x.n.log.length d)])∧z.n=prZ (prOk (gN x.n) x.n.ro x.n.log.length d) x.n d∧PN w' w.heap.size z∧Below w.heap.size w w':=by
 refine (specProp_any x.n.id x.n.pe x.n.te x.n.vo x.n.co x.n.ro _ _ _ x.n.log x.n.vs x.n.mt d c w hx (by have:=hb.l;omega) (by have:=hb.v;omega) (by have:=hb.m;omega) hb.s hd).mono ?_;rintro e w' ⟨ul,uv,um,rfl,ho,hB⟩;obtain⟨z,hz,rfl,rfl,rfl,hp⟩:=nv_of (prZ (prOk (gN x.n) x.n.ro x.n.log.length d) x.n d) ho;exact⟨z,by rw [hz];rfl,hz,hp,hB⟩
theorem implAFL (x:Nv) (peer many:Int) (c:Nat) (w:World) (hx:PN w c x) (hb:Bd x.n):
  Calls Try.prog 16 #[.agg x,peer,many] w fun e w'=>∃q:Mv,e= .returned (.tuple #[.agg q,.bool (afOk (gN x.n) x.n.id x.n.pe x.n.ro peer many)])∧q.q=afZ (afOk (gN x.n) x.n.id x.n.pe x.n.ro peer many) x.n peer many∧PM w' w.heap.size q∧Below w.heap.size w w':=by
 refine (implAF_any x.n.id x.n.pe x.n.te x.n.vo x.n.co x.n.ro _ _ _ x.n.log x.n.vs x.n.mt peer many c w hx (by have:=hb.l;omega) (by have:=hb.v;omega) (by have:=hb.m;omega) hb.s).mono ?_;rintro e w' ⟨ue,rfl,ho,hB⟩;obtain⟨q,hq,rfl,hp⟩:=mv_of (afZ (afOk (gN x.n) x.n.id x.n.pe x.n.ro peer many) x.n peer many) ho;exact⟨q,by rw [hq];rfl,hq,hp,hB⟩
theorem specAFL (x:Nv) (peer many:Int) (c:Nat) (w:World) (hx:PN w c x) (hb:Bd x.n):
  Calls Try.prog 17 #[.agg x,peer,many] w fun e w'=>∃q:Mv,e= .returned (.tuple #[.agg q,.bool (afOk (gN x.n) x.n.id x.n.pe x.n.ro peer many)])∧q.q=afZ (afOk (gN x.n) x.n.id x.n.pe x.n.ro peer many) x.n peer many∧PM w' w.heap.size q∧Below w.heap.size w w':=by
 refine (specAF_any x.n.id x.n.pe x.n.te x.n.vo x.n.co x.n.ro _ _ _ x.n.log x.n.vs x.n.mt peer many c w hx (by have:=hb.l;omega) (by have:=hb.v;omega) (by have:=hb.m;omega) hb.s).mono ?_;rintro e w' ⟨ue,rfl,ho,hB⟩;obtain⟨q,hq,rfl,hp⟩:=mv_of (afZ (afOk (gN x.n) x.n.id x.n.pe x.n.ro peer many) x.n peer many) ho;exact⟨q,by rw [hq];rfl,hq,hp,hB⟩
end Go.Proofs.Ytapfhhmimkkhnaa
