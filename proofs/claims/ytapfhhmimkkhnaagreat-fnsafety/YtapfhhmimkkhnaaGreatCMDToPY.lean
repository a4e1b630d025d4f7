/-
  A cluster marked, a row of bools spared.
  Steps in a row: rows of five cells; szClusterStepS, toClusterStepS, eqClusterStepS, markClusterStepS.
  Bools in a row: eqBoolS, markBoolS, heldBoolS.
  Both PlayClusters in one form; bounds.
  What all have committed: entries compared, the plain side, l12Common.
  What is the same is said to be: sameEntries, sameInts, sameBools, sameNodes.
  What both sides played: played.
-/
import Derived.Test.YtapfhhmimkkhnaaGreatSPL
import Derived.Laws.StructEq
namespace Go.Proofs.YtapfhhmimkkhnaaGreat
open Go.RowKit Go.Maps
set_option linter.unusedVariables false
set_option maxRecDepth 100000

end Go.Proofs.YtapfhhmimkkhnaaGreat
namespace Go.Proofs.YtapfhhmimkkhnaaGreat
open Go.RowKit
set_option linter.unusedVariables false
set_option maxRecDepth 100000
def Sp.zero:Sp:=⟨0,0,0,0,⟨#[]⟩⟩
instance:Inhabited Sp:=⟨Sp.zero⟩
def flT:List Sp→List Value
 | []=> []
 | s::r=> .int .i64 s.ki:: .int .i64 s.no:: .int .i64 s.k:: .int .i64 s.ma:: .string s.d::flT r
theorem yZ_ (l:List Sp):(flT l).length=l.length*5:=by
 induction l with
 | nil=>rfl
 | cons x r ih=>simp only [flT,List.length_cons,ih];omega
theorem uH_ (l m:List Sp):flT (l++m)=flT l++flT m:=by
 induction l with
 | nil=>rfl
 | cons x r ih=>simp only [List.cons_append,flT,ih]
theorem tl_ (l:List Sp) (i:Nat) (h:i<l.length):(flT l)[i*5]? =some (.int .i64 l[i].ki)∧(flT l)[i*5+1]? =some (.int .i64 l[i].no)∧(flT l)[i*5+2]? =some (.int .i64 l[i].k)∧(flT l)[i*5+3]? =some (.int .i64 l[i].ma)∧(flT l)[i*5+4]? =some (.string l[i].d):=by
 induction l generalizing i with
 | nil=>simp at h
 | cons x r ih=>
  cases i with
  | zero=>exact⟨rfl,rfl,rfl,rfl,rfl⟩
  | succ i=>
   have:=ih i (by simpa using h);rw [show (i+1)*5=i*5+1+1+1+1+1 from by omega,show i*5+1+1+1+1+1+1=(i*5+1)+1+1+1+1+1 from by omega,show i*5+1+1+1+1+1+2=(i*5+2)+1+1+1+1+1 from by omega,show i*5+1+1+1+1+1+3=(i*5+3)+1+1+1+1+1 from by omega,show i*5+1+1+1+1+1+4=(i*5+4)+1+1+1+1+1 from by omega];simp only [flT,List.getElem?_cons_succ,List.getElem_cons_succ];exact this
theorem pv_ (n:Nat):(madeCells (Value.agg #[.int .i64 0,.int .i64 0,.int .i64 0,.int .i64 0,.string ⟨#[]⟩]).cells (n*5)).toList=flT (List.replicate n Sp.zero):=by
 have hcs:(Value.agg #[.int .i64 0,.int .i64 0,.int .i64 0,.int .i64 0,.string ⟨#[]⟩]).cells=#[.int .i64 0,.int .i64 0,.int .i64 0,.int .i64 0,.string ⟨#[]⟩]:=rfl;rw [hcs];apply List.ext_getElem?;intro i;by_cases hi:i<n*5
 ·obtain⟨j,m,hm,rfl⟩:∃j m,m<5∧i=j*5+m:=⟨i / 5,i % 5,by omega,by omega⟩;have hj:j<(List.replicate n Sp.zero).length:=by simp;omega
  obtain⟨g0,g1,g2,g3,g4⟩:=tl_ _ j hj;obtain rfl | rfl | rfl | rfl | rfl:m=0∨m=1∨m=2∨m=3∨m=4:=by omega
  ·rw [Nat.add_zero] at hi ⊢;rw [g0];simp [madeCells,hi,Sp.zero]
  ·rw [g1];simp [madeCells,hi,Sp.zero]
  ·rw [g2];simp [madeCells,hi,Sp.zero]
  ·rw [g3];simp [madeCells,hi,Sp.zero]
  ·rw [g4];simp [madeCells,hi,Sp.zero]
 ·rw [List.getElem?_eq_none (by simp [madeCells];omega),List.getElem?_eq_none (by rw [yZ_];simp;omega)]
def TR (w:World) (v:Value) (l:List Sp):Prop:=
 ∃a cap,v= .slice a l.length cap∧(l≠ []→∃b off,a=some ⟨b,off,none⟩∧b<w.heap.size∧
  ∀i (h:i<l.length),w.cell? ⟨b,off+i*5,none⟩=some (.int .i64 l[i].ki)∧w.cell? ⟨b,off+i*5+1,none⟩=some (.int .i64 l[i].no)∧w.cell? ⟨b,off+i*5+2,none⟩=some (.int .i64 l[i].k)∧w.cell? ⟨b,off+i*5+3,none⟩=some (.int .i64 l[i].ma)∧w.cell? ⟨b,off+i*5+4,none⟩=some (.string l[i].d))
theorem TR.below {w w':World} {v:Value} {l:List Sp} (h:TR w v l) (hb:Below w.heap.size w w'):TR w' v l:=by
 obtain⟨a,cap,hv,hc⟩:=h;refine⟨a,cap,hv,fun hl=> ?_⟩;obtain⟨b,off,ha,hbl,hcell⟩:=hc hl;refine⟨b,off,ha,Nat.lt_of_lt_of_le hbl hb.size,fun i hi=> ?_⟩;obtain⟨c0,c1,c2,c3,c4⟩:=hcell i hi;exact⟨(hb.cell (p:=⟨b,off+i*5,none⟩) hbl).trans c0,(hb.cell (p:=⟨b,off+i*5+1,none⟩) hbl).trans c1,(hb.cell (p:=⟨b,off+i*5+2,none⟩) hbl).trans c2,(hb.cell (p:=⟨b,off+i*5+3,none⟩) hbl).trans c3,(hb.cell (p:=⟨b,off+i*5+4,none⟩) hbl).trans c4⟩
theorem TR.size {w:World} {v:Value} {l:List Sp} (h:TR w v l):∃a cap,v= .slice a l.length cap:=by obtain⟨a,c,h,_⟩:=h;exact⟨a,c,h⟩
theorem qu_ {w:World} {base n:Nat} {e:TypeId} {v:Value} {l:List Sp} (h:w.ownsRow base e 5 v n (flT l)) (hn:n=l.length):TR w v l:=by
 subst hn;have h':=h;obtain⟨hl,h⟩:=h;rcases h with⟨rfl,h0⟩ | ⟨g,cap,cur,rfl,hbg,hh,hcap,hm,hsz,htk⟩
 ·exact⟨none,0,by rw [h0],fun hne=>absurd (List.length_eq_zero_iff.1 h0) hne⟩
 ·refine⟨_,cap,rfl,fun _=>⟨g,0,rfl,(Array.getElem?_eq_some_iff.1 hh).1,fun i hi=> ?_⟩⟩;obtain⟨g0,g1,g2,g3,g4⟩:=tl_ l i hi;rw [Nat.zero_add];exact⟨by rw [h'.cellAt (i*5) (by omega),g0],by rw [h'.cellAt (i*5+1) (by omega),g1],by rw [h'.cellAt (i*5+2) (by omega),g2],by rw [h'.cellAt (i*5+3) (by omega),g3],by rw [h'.cellAt (i*5+4) (by omega),g4]⟩
theorem Tryz.info51:(Tryz.prog.info? 51).map (fun i=>(i.zero,i.size,i.bytes))=some (some (.agg #[.int .i64 0,.int .i64 0,.int .i64 0,.int .i64 0,.string ⟨#[]⟩]),5,48):=by kernel_rfl
theorem flT_S (l:List Sp):flT l=vR_ l:=by
 induction l with
 | nil=>rfl
 | cons x r ih=>simp only [flT,vR_,ih]
def BR (w:World) (v:Value) (D:List Bool):Prop:=
 ∃a cap,v= .slice a D.length cap∧(D≠ []→∃b,a=some ⟨b,0,none⟩∧b<w.heap.size∧∀i (h:i<D.length),w.cell? ⟨b,i,none⟩=some (.bool D[i]))
theorem BR.below {w w':World} {v:Value} {D:List Bool} (h:BR w v D) (hb:Below w.heap.size w w'):BR w' v D:=by
 obtain⟨a,cap,hv,hc⟩:=h;refine⟨a,cap,hv,fun hl=> ?_⟩;obtain⟨b,ha,hbl,hcell⟩:=hc hl;exact⟨b,ha,Nat.lt_of_lt_of_le hbl hb.size,fun i hi=>(hb.cell (p:=⟨b,i,none⟩) hbl).trans (hcell i hi)⟩
theorem uN_ {w:World} {base:Nat} {e:TypeId} {v:Value} {D:List Bool} {n:Nat} (h:w.ownsRow base e 1 v n (D.map .bool)) (hn:n=D.length):BR w v D:=by
 subst hn;have h':=h;rcases h.2 with⟨rfl,h0⟩ | ⟨g,cap,cur,rfl,hbg,hh,_⟩
 ·exact⟨none,0,by rw [h0],fun hne=>absurd (List.length_eq_zero_iff.1 h0) hne⟩
 ·exact⟨_,cap,rfl,fun _=>⟨g,rfl,(Array.getElem?_eq_some_iff.1 hh).1,fun i hi=>by rw [h'.cellAt i (by omega)];simp [hi]⟩⟩
theorem rY_ (w:World) (b:Bool):(binOp .neq 4 (.bool b) (.bool b)).run Tryz.prog w= .ok (.bool false) w:=by
 cases b <;>kernel_rfl
end Go.Proofs.YtapfhhmimkkhnaaGreat
namespace Go.Proofs.YtapfhhmimkkhnaaGreat
open Go.RowKit Go.Maps
set_option linter.unusedVariables false
set_option maxRecDepth 100000
def plR (ok:Bool) (p:Nat) (l:List Sp):PS:=if ok=true then plGo (zG_ p) l else⟨[],[],[]⟩
def plD (ok:Bool) (p:Nat) (l:List Sp):List Bool:=if ok=true then yQ_ (zG_ p) l else []
def PlB (w':World) (b0:Nat) (ok:Bool) (R:PS) (D:List Bool) (e:Ending):Prop:=
 ∃un um ul N M dv,e= .returned (.tuple #[.agg #[un,um,ul],dv,ok])∧OwnC w' b0 w'.heap.size un um ul N M R.l∧N.map Nv.n=R.n∧M.map Mv.q=R.m∧w'.ownsRow b0 4 1 dv D.length (D.map Value.bool)
theorem OwnC.none (w:World) (lo hi:Nat) (h:lo≤hi):OwnC w lo hi (.slice none 0 0) (.slice none 0 0) (.slice none 0 0) [] [] []:=
 OwnC.of (mid:=lo) (World.ownsRow_nil _ _ _ _) (World.ownsRow_nil _ _ _ _) (World.ownsRow_nil _ _ _ _) (zr_.nil (Nat.le_refl _)) (zr_.nil h) (fun b hb=>by cases hb) (fun b hb=>by cases hb) (fun b hb=>by cases hb)
theorem plA_B {w':World} {b0:Nat} {ok:Bool} {p:Nat} {l:List Sp} {e:Ending} (h:PlA w' b0 ok p l e) (hb:b0≤w'.heap.size):PlB w' b0 ok (plR ok p l) (plD ok p l) e:=by
 rcases h with⟨rfl,un,um,ul,N,M,du,dc,rfl,h1,h2,h3,h4⟩ | ⟨rfl,rfl⟩
 ·exact⟨un,um,ul,N,M,_,rfl,h1,h2,h3,by simp only [plD,if_true];rw [yE_];exact h4⟩
 ·exact⟨_,_,_,[],[],_,rfl,OwnC.none _ _ _ hb,rfl,rfl,World.ownsRow_nil _ _ _ _⟩
theorem uW_ {α:Type} (u:α→Nat) (c:Nat) (l:List α) (h:∀i (h:i<l.length),u l[i]≤c):sm u l≤c*l.length:=by
 induction l with
 | nil=>simp [sm]
 | cons x r ih=>
  have h0:=h 0 (by simp);have h1:=ih fun i hi=>by have:=h (i+1) (by simpa using hi);simpa using this
  simp only [sm,List.length_cons,List.getElem_cons_zero] at*;rw [Nat.mul_add];omega
theorem uC_pg {p:Nat} {N:List Nv} {M:List Mv} {L:List Ld} (h:PG p (N.map Nv.n) (M.map Mv.q) L):uC N M L≤20000:=by
 have hn:N.length≤7:=by have:=h.n;have:=h.p7;rw [List.length_map] at*;omega
 have hm:M.length≤60:=by have:=h.m6;rw [List.length_map] at this;exact this
 have hl:=h.l;have a:=uW_ uN 140 N fun i hi=>by
  obtain⟨g,_⟩:=h.g i (by rw [List.length_map];exact hi);rw [List.getElem_map] at g;have h1:=g.ll;have h2:=g.vl;unfold uN;omega
 have b:=uW_ uM 128 M fun i hi=>by
  have g:=h.m M[i].q (List.mem_map.2 ⟨M[i],List.getElem_mem hi,rfl⟩);obtain⟨_,_,_,_,_,_,a7⟩:=zt_ g;unfold uM;rcases xd_ a7 with h | h | h | h <;>rw [h] at a7
  ·rw [(vk_ a7).2.1];simp
  ·rw [(vj_ a7).2.2.1];simp
  ·have:=(xe_ a7).2.1;have:=(xe_ a7).1.1;omega
  ·rw [(xR_ a7).2.2.1];simp
 have c:=uW_ uL 2 L fun i hi=>by unfold uL;omega
 unfold uC;omega
theorem qL_ (p:Int) (l:List Sp) {N:List Nv} {M:List Mv} (hn:N.map Nv.n=(plR (plOk p l) p.toNat l).n) (hm:M.map Mv.q=(plR (plOk p l) p.toNat l).m):CS N M (plR (plOk p l) p.toNat l).l∧uC N M (plR (plOk p l) p.toNat l).l≤20000:=by
 cases hok:plOk p l with
 | false=>
  rw [hok] at hn hm;simp only [plR,Bool.false_eq_true,if_false,List.map_eq_nil_iff] at hn hm ⊢;subst hn hm;exact⟨⟨by simp,by simp,by simp,fun i h=>by simp at h,fun i h=>by simp at h,fun i h=>by simp at h,fun i h=>by simp at h⟩,by simp [uC,sm]⟩
 | true=>
  rw [hok] at hn hm;simp only [plR,if_true] at hn hm ⊢;have hp:1≤p∧p≤7:=by
   unfold plOk at hok;simp only [Bool.and_eq_true] at hok;simpa [inB] using hok.1
  have g:PG p.toNat (plGo (zG_ p.toNat) l).n (plGo (zG_ p.toNat) l).m (plGo (zG_ p.toNat) l).l:=((newPF p.toNat (by omega) (by omega)).go l).g;rw [←hn,←hm] at g;exact⟨vV_ g,uC_pg g⟩
theorem plD_len (p:Int) (l:List Sp):(plD (plOk p l) p.toNat l).length≤200:=by
 cases hok:plOk p l with
 | false=>simp [plD]
 | true=>
  simp only [plD,if_true,yE_];unfold plOk at hok;simp only [Bool.and_eq_true,decide_eq_true_eq] at hok;exact hok.2
theorem eqG34:Tryz.prog.eqGuardType Tryz.prog.depth 44=false:=by kernel_rfl
theorem stood34:Tryz.prog.stoodInHeld 44=false:=by kernel_rfl
theorem vM_ (d:Nat) (xs ys:Array Value) (P:Program) (w:World):(Op.eqFields d xs ys []).run P w= .ok true w:=rfl
theorem yV_ {d:Nat} {xs ys:Array Value} {f:Field} {fs:List Field} {P:Program} {w:World} {x y:Value} {r:Bool} (hn:f.name≠ "_") (hx:(Go.part f.type xs f.offset).run P w= .ok x w) (hy:(Go.part f.type ys f.offset).run P w= .ok y w) (he:(Op.equalIn d f.type x y).run P w= .ok r w):
  (Op.eqFields d xs ys (f::fs)).run P w=if r=true then (Op.eqFields d xs ys fs).run P w else .ok false w:=by
 rw [Op.eqFields,if_pos hn];simp only [Sem.run_bind,hx,hy,he,Result.andThen_ok]
 cases r <;>simp
def fT:Field:= { name:= "Term",type:=3,offset:=0,embedded:=false,tag:= "",pkgPath:= "",byteOffset:=0 }
def fD:Field:= { name:= "Data",type:=9,offset:=1,embedded:=false,tag:= "",pkgPath:= "",byteOffset:=8 }
theorem rP_:Tryz.prog.fieldsOf 44=#[fT,fD]:=by unfold Program.fieldsOf;rw [Tryz.underlying44];rfl
theorem part9 (xs:Array Value) (i:Nat) (x:Value) (w:World) (h:xs[i]? =some x):(Go.part 9 xs i).run Tryz.prog w= .ok x w:=by simp [Go.part,isAgg,run_underlying Tryz.underlying9,h]
theorem qb_ (xs:Array Value) (i:Nat) (x:Value) (w:World) (h:xs[i]? =some x):(Go.part 3 xs i).run Tryz.prog w= .ok x w:=by simp [Go.part,isAgg,run_underlying Tryz.underlying3,h]
def enEq (a b:En):Bool:=(a.t==b.t)&&(a.d.toList==b.d.toList)
theorem pB_ (a b:En):enEq a b=enEq b a:=by unfold enEq;rw [BEq.comm,BEq.comm (a:=a.d.toList)]
theorem equalEnt (a b:En) (w:World):(Op.equalIn (9999+1) 44 (.agg #[a.t,a.d]) (.agg #[b.t,b.d])).run Tryz.prog w= .ok (enEq a b) w:=by
 have hu:Tryz.prog.underlying 44=some (.struct (Tryz.prog.fieldsOf 44)):=by rw [rP_];exact Tryz.underlying44
 rw [run_equalIn_struct w 9999 44 _ _ hu stood34,rP_];have h1:=yV_ (d:=9999) (xs:=#[a.t,a.d]) (ys:=#[b.t,b.d]) (f:=fT) (fs:= [fD]) (x:= .int .i64 a.t) (y:= .int .i64 b.t) (by decide) (qb_ _ 0 _ w rfl) (qb_ _ 0 _ w rfl) (run_equalIn_int w 9998 3 .i64 .i64 _ _ Tryz.underlying3);have h2:=yV_ (d:=9999) (xs:=#[a.t,a.d]) (ys:=#[b.t,b.d]) (f:=fD) (fs:= []) (x:= .string a.d) (y:= .string b.d) (by decide) (part9 _ 1 _ w rfl) (part9 _ 1 _ w rfl) (run_equalIn_string w 9998 9 _ _ Tryz.underlying9);show (Op.eqFields 9999 _ _ [fT,fD]).run Tryz.prog w=_;rw [h1,h2,vM_];unfold enEq
 cases (a.t==b.t) <;>cases (a.d.toList==b.d.toList) <;>rfl
theorem qO_ (a b:En) (w:World):(binOp .neq 44 (.agg #[a.t,a.d]) (.agg #[b.t,b.d])).run Tryz.prog w= .ok (.bool (!enEq a b)) w:=by
 rw [run_neq_struct];show (Sem.run Tryz.prog (Op.equalIn (9999+1) 44 _ _) w).andThen _=_;rw [equalEnt]
 rfl
def eqAt (a b:List En) (j:Nat):Bool:=if h:j<a.length∧j<b.length then enEq a[j] b[j] else false
theorem pA_ {a b:List En} {j:Nat} (h1:j<a.length) (h2:j<b.length):eqAt a b j=enEq a[j] b[j]:=by unfold eqAt;rw [dif_pos ⟨h1,h2⟩]
def okN (L0:List En) (x:Nd) (j:Nat):Bool:=decide ((j:Int)<x.co)&&eqAt L0 x.log j
def IsCm (L0:List En) (N:List Nd) (m:Nat):Prop:=(∀j,j<m→∀i (h:i<N.length),okN L0 N[i] j=true)∧∃i,∃h:i<N.length,okN L0 N[i] m=false
theorem IsCm.one {L0:List En} {N:List Nd} {m m':Nat} (h:IsCm L0 N m) (h':IsCm L0 N m'):m=m':=by
 obtain⟨i,hi,e⟩:=h.2;obtain⟨i',hi',e'⟩:=h'.2;by_cases h1:m<m'
 ·have:=h'.1 m h1 i hi;rw [e] at this;cases this
 ·by_cases h2:m'<m
  ·have:=h.1 m' h2 i' hi';rw [e'] at this;cases this
  ·omega
open Classical in
noncomputable def cmM (L0:List En) (N:List Nd):Nat:=if h:∃m,IsCm L0 N m then Classical.choose h else 0
theorem cmM_eq {L0:List En} {N:List Nd} {m:Nat} (h:IsCm L0 N m):cmM L0 N=m:=by
 have he:∃m,IsCm L0 N m:=⟨m,h⟩;unfold cmM;rw [dif_pos he];exact (Classical.choose_spec he).one h
def log0:List Nd→List En
 | []=> []
 | x::_=>x.log
noncomputable def cmL (ok:Bool) (N:List Nd):List En:=if ok then (log0 N).take (cmM (log0 N) N) else []
def CQ (N:List Nv):Prop:=∀i (h:i<N.length),Nn (.slice N[i].la N[i].n.log.length N[i].lc)∧N[i].n.log.length≤N[i].lc
theorem goodC_co {N:List Nv} {M:List Ms} {L:List Ld} (h:zU_ (N.map Nv.n) M L=true):1≤N.length∧N.length≤7∧∀i (hi:i<N.length),0≤N[i].n.co∧N[i].n.co≤(N[i].n.log.length:Int)∧N[i].n.log.length≤60:=by
 unfold zU_ at h;simp only [List.length_map,Bool.and_eq_true,decide_eq_true_eq] at h;refine⟨h.1.1,h.1.2,fun i hi=> ?_⟩;have hn:=of_decide_eq_true h.2.1;have:=hn i (by simpa using hi);simp only [ndOk,gNd,List.getElem_map,Bool.and_eq_true] at this;exact⟨(xu_ this.1).1,(xu_ this.1).2,(yH_ this.1).2.2.2.2⟩
theorem below_drewN {B:Nat} {w w':World} (h:Below B w w') (q:Nat):Below B w (w'.drewN q):=by
 induction q with
 | zero=>exact h
 | succ q ih=>exact ih.drew
set_option maxHeartbeats 8000000
theorem yL_ (u v:Value) (l:List En) (w:World) (hu:ER w u l) (hv:ER w v l) (hn:l.length≤1048576):
  Calls Tryz.prog 13 #[u,v] w fun e w'=>e= .returned (.bool true)∧Below w.heap.size w w':=by
 obtain⟨a,cap,rfl,hc⟩:=hu;obtain⟨a',cap',rfl,hc'⟩:=hv;go_enter Tryz.func13,Tryz.ntmps13;go_wp2
 go_loopw [13] (fun i wr=>∃k:Nat,k≤l.length∧i= .int .i64 k∧Below w.heap.size w wr) (fun i _=>l.length-(intOf i).toNat)
 case atStart=>exact⟨0,Nat.zero_le _,rfl,Below.refl _ _⟩
 case round=>
  obtain⟨k,hk,rfl,hb⟩:=hrel;by_cases hlt:k<l.length
  ·obtain⟨b,off,rfl,hbl,hcell⟩:=hc (by intro e;simp [e] at hlt);obtain⟨b',off',rfl,hbl',hcell'⟩:=hc' (by intro e;simp [e] at hlt);have hc0:=(hb.cell (p:=⟨b,off+k*2,none⟩) hbl).trans (hcell k hlt).1;have hc1:=(hb.cell (p:=⟨b,off+k*2+1,none⟩) hbl).trans (hcell k hlt).2;have hd0:=(hb.cell (p:=⟨b',off'+k*2,none⟩) hbl').trans (hcell' k hlt).1;have hd1:=(hb.cell (p:=⟨b',off'+k*2+1,none⟩) hbl').trans (hcell' k hlt).2;clear hcell hcell' hc hc';have EV:=fun W=>qO_ l[k] l[k] W;rw [show enEq l[k] l[k]=true from by simp [enEq]] at EV;simp only [Bool.not_true] at EV;generalize l[k].t=t0 at*;generalize l[k].d=d0 at*;go_wp2_with fail
   go_quiet (fail)
   go_wp2;go_roundw
   case rel=>exact⟨k+1,by omega,by go_num,below_drewN hb _⟩
   case measure=>simp [intOf];omega
  ·clear hc hc';go_wp2;go_ret;exact⟨rfl,hb⟩
theorem xZ_ (u v:Value) (l:List Int) (w:World) (hu:IL w u l) (hv:IL w v l) (hn:l.length≤1048576):
  Calls Tryz.prog 67 #[u,v] w fun e w'=>e= .returned (.bool true)∧Below w.heap.size w w':=by
 obtain⟨a,cap,rfl,hc⟩:=hu;obtain⟨a',cap',rfl,hc'⟩:=hv;go_enter Tryz.func67,Tryz.ntmps67;go_wp2
 go_loopw [13] (fun i wr=>∃k:Nat,k≤l.length∧i= .int .i64 k∧Below w.heap.size w wr) (fun i _=>l.length-(intOf i).toNat)
 case atStart=>exact⟨0,Nat.zero_le _,rfl,Below.refl _ _⟩
 case round=>
  obtain⟨k,hk,rfl,hb⟩:=hrel;by_cases hlt:k<l.length
  ·obtain⟨b,off,rfl,hbl,hcell⟩:=hc (by intro e;simp [e] at hlt);obtain⟨b',off',rfl,hbl',hcell'⟩:=hc' (by intro e;simp [e] at hlt);have hc0:wr.cell? ⟨b,off+k,none⟩=some (.int .i64 l[k]):=(hb.cell (p:=⟨b,off+k,none⟩) hbl).trans (hcell k hlt);have hd0:wr.cell? ⟨b',off'+k,none⟩=some (.int .i64 l[k]):=(hb.cell (p:=⟨b',off'+k,none⟩) hbl').trans (hcell' k hlt);clear hcell hcell' hc hc';generalize l[k]=c at*;go_wp2_with fail
   go_quiet (fail)
   go_wp2;go_roundw
   case rel=>exact⟨k+1,by omega,by go_num,below_drewN hb _⟩
   case measure=>simp [intOf];omega
  ·clear hc hc';go_wp2;go_ret;exact⟨rfl,hb⟩
theorem ur_ (u v:Value) (l:List Bool) (w:World) (hu:BR w u l) (hv:BR w v l) (hn:l.length≤1048576):
  Calls Tryz.prog 32 #[u,v] w fun e w'=>e= .returned (.bool true)∧Below w.heap.size w w':=by
 obtain⟨a,cap,rfl,hc⟩:=hu;obtain⟨a',cap',rfl,hc'⟩:=hv;go_enter Tryz.func32,Tryz.ntmps32;go_wp2
 go_loopw [13] (fun i wr=>∃k:Nat,k≤l.length∧i= .int .i64 k∧Below w.heap.size w wr) (fun i _=>l.length-(intOf i).toNat)
 case atStart=>exact⟨0,Nat.zero_le _,rfl,Below.refl _ _⟩
 case round=>
  obtain⟨k,hk,rfl,hb⟩:=hrel;by_cases hlt:k<l.length
  ·obtain⟨b,rfl,hbl,hcell⟩:=hc (by intro e;simp [e] at hlt);obtain⟨b',rfl,hbl',hcell'⟩:=hc' (by intro e;simp [e] at hlt);have hc0:wr.cell? ⟨b,k,none⟩=some (.bool l[k]):=(hb.cell (p:=⟨b,k,none⟩) hbl).trans (hcell k hlt);have hd0:wr.cell? ⟨b',k,none⟩=some (.bool l[k]):=(hb.cell (p:=⟨b',k,none⟩) hbl').trans (hcell' k hlt);have NB:=rY_;clear hcell hcell' hc hc';generalize l[k]=c at*;go_wp2_with fail
   go_quiet (fail)
   go_wp2;go_roundw
   case rel=>exact⟨k+1,by omega,by go_num,below_drewN hb _⟩
   case measure=>simp [intOf];omega
  ·clear hc hc';go_wp2;go_ret;exact⟨rfl,hb⟩
theorem uq_ (id pe te vo co ro:Int) (ul uv um vl vv vm:Value) (log:List En) (vs mt:List Int) (w:World) (h1:ER w ul log) (h2:IL w uv vs) (h3:IL w um mt) (h4:ER w vl log) (h5:IL w vv vs) (h6:IL w vm mt) (n1:log.length≤1048576) (n2:vs.length≤1048576) (n3:mt.length≤1048576):
  Calls Tryz.prog 33 #[.agg #[id,pe,te,vo,ul,co,ro,uv,um],.agg #[id,pe,te,vo,vl,co,ro,vv,vm]] w fun e w'=>e= .returned (.bool true)∧Below w.heap.size w w':=by
 obtain⟨W0,hW0,hB,X,Y,_⟩:=al2 w [id,pe,te,vo,ul,co,ro,uv,um] 42 [id,pe,te,vo,vl,co,ro,vv,vm] 42;have K1:=fun W (q:Below w.heap.size w W)=>yL_ ul vl log W (h1.below q) (h4.below q) n1;have K2:=fun W (q:Below w.heap.size w W)=>xZ_ uv vv vs W (h2.below q) (h5.below q) n2;have K3:=fun W (q:Below w.heap.size w W)=>xZ_ um vm mt W (h3.below q) (h6.below q) n3;obtain⟨la,lc,rfl,_⟩:=h1;obtain⟨va,vc,rfl,_⟩:=h2;obtain⟨ma,mc,rfl,_⟩:=h3;obtain⟨la',lc',rfl,_⟩:=h4;obtain⟨va',vc',rfl,_⟩:=h5;obtain⟨ma',mc',rfl,_⟩:=h6;obtain⟨xl,x0,x1,x2,x3,x4,x5,x6,x7,x8⟩:=X.e9;obtain⟨yl,y0,y1,y2,y3,y4,y5,y6,y7,y8⟩:=Y.e9;go_enter Tryz.func33,Tryz.ntmps33;go_wp2_with fail;rw [←hW0];clear hW0;refine (K1 _ hB).mono ?_;rintro e w1 ⟨rfl,hb⟩;replace hB:=za_ hB hb;replace X:=X.below hb;replace Y:=Y.below hb;clear hb;clear xl x0 x1 x2 x3 x4 x5 x6 x7 x8 yl y0 y1 y2 y3 y4 y5 y6 y7 y8;obtain⟨xl,x0,x1,x2,x3,x4,x5,x6,x7,x8⟩:=X.e9;obtain⟨yl,y0,y1,y2,y3,y4,y5,y6,y7,y8⟩:=Y.e9;go_wp2_with fail;refine (K2 _ hB).mono ?_;rintro e w2 ⟨rfl,hb⟩;replace hB:=za_ hB hb;replace X:=X.below hb;replace Y:=Y.below hb;clear hb;clear xl x0 x1 x2 x3 x4 x5 x6 x7 x8 yl y0 y1 y2 y3 y4 y5 y6 y7 y8;obtain⟨xl,x0,x1,x2,x3,x4,x5,x6,x7,x8⟩:=X.e9;obtain⟨yl,y0,y1,y2,y3,y4,y5,y6,y7,y8⟩:=Y.e9;go_wp2_with fail;refine (K3 _ hB).mono ?_;rintro e w3 ⟨rfl,hb⟩;replace hB:=za_ hB hb;replace X:=X.below hb;replace Y:=Y.below hb;clear hb;clear xl x0 x1 x2 x3 x4 x5 x6 x7 x8 yl y0 y1 y2 y3 y4 y5 y6 y7 y8;clear X Y K1 K2 K3;go_wp2;go_ret;exact⟨rfl,hB⟩
set_option maxHeartbeats 16000000
theorem stoodL:Tryz.prog.stoodInHeld 34=false:=by kernel_rfl
def fLT:Field:= { name:= "Term",type:=3,offset:=0,embedded:=false,tag:= "",pkgPath:= "",byteOffset:=0 }
def fLN:Field:= { name:= "Node",type:=3,offset:=1,embedded:=false,tag:= "",pkgPath:= "",byteOffset:=8 }
theorem pw_:Tryz.prog.fieldsOf 34=#[fLT,fLN]:=by unfold Program.fieldsOf;rw [Tryz.underlying34];rfl
theorem neqLeadV (a b:Int) (w:World):(binOp .neq 34 (.agg #[a,b]) (.agg #[a,b])).run Tryz.prog w= .ok (.bool false) w:=by
 rw [run_neq_struct];show (Sem.run Tryz.prog (Op.equalIn (9999+1) 34 _ _) w).andThen _=_;have hu:Tryz.prog.underlying 34=some (.struct (Tryz.prog.fieldsOf 34)):=by rw [pw_];exact Tryz.underlying34
 rw [run_equalIn_struct w 9999 34 _ _ hu stoodL,pw_];have h1:=yV_ (d:=9999) (xs:=#[a,b]) (ys:=#[a,b]) (f:=fLT) (fs:= [fLN]) (x:= .int .i64 a) (y:= .int .i64 a) (by decide) (qb_ _ 0 _ w rfl) (qb_ _ 0 _ w rfl) (run_equalIn_int w 9998 3 .i64 .i64 _ _ Tryz.underlying3);have h2:=yV_ (d:=9999) (xs:=#[a,b]) (ys:=#[a,b]) (f:=fLN) (fs:= []) (x:= .int .i64 b) (y:= .int .i64 b) (by decide) (qb_ _ 1 _ w rfl) (qb_ _ 1 _ w rfl) (run_equalIn_int w 9998 3 .i64 .i64 _ _ Tryz.underlying3);have e:(Op.eqFields 9999 #[a,b] #[a,b] [fLT,fLN]).run Tryz.prog w= .ok true w:=by
  rw [h1,h2,vM_];simp
 show ((Op.eqFields 9999 _ _ [fLT,fLN]).run Tryz.prog w).andThen _=_;rw [e]
 rfl
def PyA (w':World) (b0:Nat) (ok:Bool) (R:PS) (e:Ending):Prop:=
 ∃un um ul N M,e= .returned (.tuple #[.agg #[un,um,ul],ok,true])∧OwnC w' b0 w'.heap.size un um ul N M R.l∧N.map Nv.n=R.n∧M.map Mv.q=R.m
theorem uX_ (w:World) (b:Bool):(binOp .neq 4 (.bool b) (.bool b)).run Tryz.prog w= .ok (.bool false) w:=by
 cases b <;>kernel_rfl
theorem qa_ (p:Int) (v:Value) (l:List Sp) (w:World) (b0:Nat) (hv:w.ownsRow b0 51 5 v l.length (flT l)) (hn:l.length≤1048576) (hs:∀i (h:i<l.length),l[i].d.size≤1048576):
  Calls Tryz.prog 9 #[p,v] w fun e w'=>PyA w' w.heap.size (plOk p l) (plR (plOk p l) p.toNat l) e∧Below w.heap.size w w':=by
 obtain⟨va,vc,h0⟩:=ze_ hv;subst h0;have S:=fun (x:Value) (b:Nat) (W:World) (h:W.ownsRow b 51 5 x l.length (flT l))=>(tv_ p l x W (by rw [flT_S] at h;exact yi_.own h) hs hn).mono (fun e w' q=>(⟨plA_B q.1 q.2.size,q.2⟩:PlB w' W.heap.size (plOk p l) (plR (plOk p l) p.toNat l) (plD (plOk p l) p.toNat l) e∧Below W.heap.size W w'));have I:=fun (x:Value) (b:Nat) (W:World) (h:W.ownsRow b 51 5 x l.length (flT l))=>(tO_ p l x W (by rw [flT_S] at h;exact yi_.own h) hs hn).mono (fun e w' q=>(⟨plA_B q.1 q.2.size,q.2⟩:PlB w' W.heap.size (plOk p l) (plR (plOk p l) p.toNat l) (plD (plOk p l) p.toNat l) e∧Below W.heap.size W w'));have RB:=fun {N:List Nv} {M:List Mv} =>qL_ p l (N:=N) (M:=M);have DL:=plD_len p l;generalize plR (plOk p l) p.toNat l=R at*;generalize plD (plOk p l) p.toNat l=D at*;generalize plOk p l=ok at*;obtain⟨Rn,Rm,Rl⟩:=R;dsimp only at RB;clear hs;have R1:=fun w b=>uX_ w b;obtain⟨W0,hW0,hB,Z,hz0⟩:=al1 w z3 30;replace hv:=zd_ hv hB;go_enter Tryz.func9,Tryz.ntmps9;go_wp2_with fail;rw [←hW0];clear hW0
 try simp only [World.size_alloc] at hv
 refine (I _ _ _ hv).mono ?_;rintro e w1 ⟨⟨p1,p2,p3,N1,M1,d,rfl,O1,N1h,M1h,D1⟩,hb1⟩;replace hB:=za_ hB hb1;replace Z:=Z.below hb1;replace hv:=zd_ hv hb1;have hz1:=hb1.size;clear hb1
 try simp only [World.size_alloc] at hz1
 have O1b:=RB N1h M1h;obtain⟨⟨pa,pc,h1⟩,⟨pd,pe,h2⟩,pf,pg,h3⟩:=O1.shapes;subst h1 h2 h3;obtain⟨da,dc,h1⟩:=ze_ D1;subst h1;dsimp only at O1 O1b N1h M1h;replace N1h:Hid (N1.map Nv.n=Rn):=N1h;replace M1h:Hid (M1.map Mv.q=Rm):=M1h;have O1l:=O1.lohi;have bx1:=zb_ w1 (.cells #[.slice pa N1.length pc,.slice pd M1.length pe,.slice pf Rl.length pg] 30);replace hB:=za_ hB bx1;replace Z:=Z.below bx1;replace hv:=zd_ hv bx1;replace O1:=O1.below bx1;replace D1:=zd_ D1 bx1;have P:=Box.new w1 #[.slice pa N1.length pc,.slice pd M1.length pe,.slice pf Rl.length pg] 30;clear bx1
 try simp only [World.size_alloc] at hv
 go_wp2_with fail;refine (S _ _ _ hv).mono ?_;rintro e w2 ⟨⟨q1,q2,q3,N0,M0,g,rfl,O0,N0h,M0h,D0⟩,hb2⟩;replace hB:=za_ hB hb2;replace Z:=Z.below hb2;replace hv:=zd_ hv hb2;replace O1:=O1.below hb2;replace D1:=zd_ D1 hb2;replace P:=P.below hb2;have hz2:=hb2.size;clear hb2
 try simp only [World.size_alloc] at hz2
 have O0b:=RB N0h M0h;obtain⟨⟨qa,qc,h1⟩,⟨qd,qe,h2⟩,qf,qg,h3⟩:=O0.shapes;subst h1 h2 h3;obtain⟨ga,gc,h1⟩:=ze_ D0;subst h1;dsimp only at O0 O0b N0h M0h;replace N0h:Hid (N0.map Nv.n=Rn):=N0h;replace M0h:Hid (M0.map Mv.q=Rm):=M0h;have O0l:=O0.lohi;have bx2:=zb_ w2 (.cells #[.slice qa N0.length qc,.slice qd M0.length qe,.slice qf Rl.length qg] 30);replace hB:=za_ hB bx2;replace Z:=Z.below bx2;replace hv:=zd_ hv bx2;replace O1:=O1.below bx2;replace D1:=zd_ D1 bx2;replace P:=P.below bx2;replace O0:=O0.below bx2;replace D0:=zd_ D0 bx2;have Q:=Box.new w2 #[.slice qa N0.length qc,.slice qd M0.length qe,.slice qf Rl.length qg] 30;clear bx2;clear hv;clear S I RB;go_wp2_with fail;refine (ur_ _ _ D _ (uN_ D1 rfl) (uN_ D0 rfl) (by omega)).mono ?_;rintro e w3 ⟨rfl,hb3⟩;replace hB:=za_ hB hb3;replace Z:=Z.below hb3;replace O1:=O1.below hb3;replace D1:=zd_ D1 hb3;replace P:=P.below hb3;replace O0:=O0.below hb3;replace D0:=zd_ D0 hb3;replace Q:=Q.below hb3;have hz3:=hb3.size;clear hb3
 try simp only [World.size_alloc] at hz3
 clear D0 D1;have hNN:N0.map Nv.n=N1.map Nv.n:=N0h.out.trans N1h.out.symm;have hNl:N0.length=N1.length:=by have:=congrArg List.length hNN;simpa using this
 rw [hNl] at Q;obtain⟨xl,x0,x1,x2⟩:=P.c3;obtain⟨yl,y0,y1,y2⟩:=Q.c3;obtain⟨a1,c1,e1,HC⟩:=O1.cr.n;obtain⟨a2,c2,e2,HD⟩:=O0.cr.n;obtain⟨a3,c3,e3,HE⟩:=O1.cr.l;obtain⟨a4,c4,e4,HF⟩:=O0.cr.l;injection e1 with e1 f1 g1;injection e2 with e2 f2 g2;injection e3 with e3 f3 g3;injection e4 with e4 f4 g4;subst e1 e2 e3 e4 g1 g2 g3 g4;clear f1 f2 f3 f4;have HG:=O1.cr.ne;have HI:=O0.cr.ne;have hCS:=O1b.1;have nL:=hCS.l;have nN:=hCS.n;have nE:=hCS.ne;clear O0 O0b O0l O1b N0h M0h hCS DL;go_wp2_with fail
 go_loopw [60] (fun i wr=>∃k:Nat,k≤N1.length∧i= .int .i64 k∧Below w3.heap.size w3 wr) (fun i _=>N1.length-(intOf i).toNat)
 case atStart=>exact⟨0,Nat.zero_le _,rfl,Below.refl _ _⟩
 case round=>
  obtain⟨k,hk,rfl,hb⟩:=hrel;have hzr:=hb.size;have X0:=(hb.cell (p:=⟨(w1.heap.size),0,none⟩) xl).trans x0;have Y0:=(hb.cell (p:=⟨(w2.heap.size),0,none⟩) yl).trans y0;have X1:=(hb.cell (p:=⟨(w1.heap.size),1,none⟩) xl).trans x1;have Y1:=(hb.cell (p:=⟨(w2.heap.size),1,none⟩) yl).trans y1;have X2:=(hb.cell (p:=⟨(w1.heap.size),2,none⟩) xl).trans x2;have Y2:=(hb.cell (p:=⟨(w2.heap.size),2,none⟩) yl).trans y2;by_cases hlt:k<N1.length
  ·have hlt':k<N0.length:=by omega
   obtain⟨b,off,rfl,hbl,hcell⟩:=HC (by intro e;simp [e] at hlt);obtain⟨b',off',rfl,hbl',hcell'⟩:=HD (by intro e;simp [e] at hlt');obtain⟨z0,z1,z2,z3,z4,z5,z6,z7,z8⟩:=hcell k hlt;obtain⟨u0,u1,u2,u3,u4,u5,u6,u7,u8⟩:=hcell' k hlt';have hc0:=(hb.cell (p:=⟨b,off+k*9,none⟩) hbl).trans z0;have hd0:=(hb.cell (p:=⟨b',off'+k*9,none⟩) hbl').trans u0;have hc1:=(hb.cell (p:=⟨b,off+k*9+1,none⟩) hbl).trans z1;have hd1:=(hb.cell (p:=⟨b',off'+k*9+1,none⟩) hbl').trans u1;have hc2:=(hb.cell (p:=⟨b,off+k*9+2,none⟩) hbl).trans z2;have hd2:=(hb.cell (p:=⟨b',off'+k*9+2,none⟩) hbl').trans u2;have hc3:=(hb.cell (p:=⟨b,off+k*9+3,none⟩) hbl).trans z3;have hd3:=(hb.cell (p:=⟨b',off'+k*9+3,none⟩) hbl').trans u3;have hc4:=(hb.cell (p:=⟨b,off+k*9+4,none⟩) hbl).trans z4;have hd4:=(hb.cell (p:=⟨b',off'+k*9+4,none⟩) hbl').trans u4;have hc5:=(hb.cell (p:=⟨b,off+k*9+5,none⟩) hbl).trans z5;have hd5:=(hb.cell (p:=⟨b',off'+k*9+5,none⟩) hbl').trans u5;have hc6:=(hb.cell (p:=⟨b,off+k*9+6,none⟩) hbl).trans z6;have hd6:=(hb.cell (p:=⟨b',off'+k*9+6,none⟩) hbl').trans u6;have hc7:=(hb.cell (p:=⟨b,off+k*9+7,none⟩) hbl).trans z7;have hd7:=(hb.cell (p:=⟨b',off'+k*9+7,none⟩) hbl').trans u7;have hc8:=(hb.cell (p:=⟨b,off+k*9+8,none⟩) hbl).trans z8;have hd8:=(hb.cell (p:=⟨b',off'+k*9+8,none⟩) hbl').trans u8;have hE:=(HG k hlt).below hb;have hE':=(HI k hlt').below hb;have hss:=nE k hlt;have hq:N0[k].n=N1[k].n:=by have:=congrArg (fun t=>t[k]?) hNN;simpa [hlt,hlt'] using this
   clear hcell HC hcell' HD z0 z1 z2 z3 z4 z5 z6 z7 z8 u0 u1 u2 u3 u4 u5 u6 u7 u8 HG HI nE HE HF x0 x1 x2 y0 y1 y2 O1 Z hNN nL R1 O1l;have hgk:N1.length=N1.length:=rfl;generalize N1[k]=s at*;generalize N0[k]=s' at*;obtain⟨⟨id,pe,te,vo,co,ro,log,vs,mt⟩,la,lc,va,vc,ma,mc⟩:=s;obtain⟨n2,la',lc',va',vc',ma',mc'⟩:=s';dsimp only at*;subst hq;have KE:=fun W (h:Below wr.heap.size wr W)=>uq_ id pe te vo co ro _ _ _ _ _ _ log vs mt W (hE.1.below h) (hE.2.1.below h) (hE.2.2.below h) (hE'.1.below h) (hE'.2.1.below h) (hE'.2.2.below h) hss.1 hss.2.1 hss.2.2;clear hE hE' hss;have hbl2:b<wr.heap.size:=by omega
   have hbl3:b'<wr.heap.size:=by omega
   have hpl2:(w1.heap.size)<wr.heap.size:=by omega
   have hql2:(w2.heap.size)<wr.heap.size:=by omega
   try dsimp only at*
   clear hlt';go_wp2_with fail
   go_region_held3 (fun w'=>(w'.cell? ⟨(w1.heap.size),0,none⟩=some (.slice (some ⟨b,off,none⟩) N1.length pc))∧(w'.cell? ⟨(w2.heap.size),0,none⟩=some (.slice (some ⟨b',off',none⟩) N1.length qc))∧w'.cell? ⟨b,off+k*9,none⟩=some (.int .i64 id)∧w'.cell? ⟨b,off+k*9+1,none⟩=some (.int .i64 pe)∧w'.cell? ⟨b,off+k*9+2,none⟩=some (.int .i64 te)∧w'.cell? ⟨b,off+k*9+3,none⟩=some (.int .i64 vo)∧w'.cell? ⟨b,off+k*9+4,none⟩=some (.slice la log.length lc)∧w'.cell? ⟨b,off+k*9+5,none⟩=some (.int .i64 co)∧w'.cell? ⟨b,off+k*9+6,none⟩=some (.int .i64 ro)∧w'.cell? ⟨b,off+k*9+7,none⟩=some (.slice va vs.length vc)∧w'.cell? ⟨b,off+k*9+8,none⟩=some (.slice ma mt.length mc)∧w'.cell? ⟨b',off'+k*9,none⟩=some (.int .i64 id)∧w'.cell? ⟨b',off'+k*9+1,none⟩=some (.int .i64 pe)∧w'.cell? ⟨b',off'+k*9+2,none⟩=some (.int .i64 te)∧w'.cell? ⟨b',off'+k*9+3,none⟩=some (.int .i64 vo)∧w'.cell? ⟨b',off'+k*9+4,none⟩=some (.slice la' log.length lc')∧w'.cell? ⟨b',off'+k*9+5,none⟩=some (.int .i64 co)∧w'.cell? ⟨b',off'+k*9+6,none⟩=some (.int .i64 ro)∧w'.cell? ⟨b',off'+k*9+7,none⟩=some (.slice va' vs.length vc')∧w'.cell? ⟨b',off'+k*9+8,none⟩=some (.slice ma' mt.length mc')) (go_keep)
    (first | (go_at_call 33;refine (KE _ (Below.refl _ _).drew).mono ?_;rintro e wc ⟨rfl,hb1'⟩;have hb1:=xM_ hb1';replace X0:=(hb1.cell (p:=⟨(w1.heap.size),0,none⟩) hpl2).trans X0;replace Y0:=(hb1.cell (p:=⟨(w2.heap.size),0,none⟩) hql2).trans Y0;replace hc0:=(hb1.cell (p:=⟨b,off+k*9,none⟩) hbl2).trans hc0;replace hc1:=(hb1.cell (p:=⟨b,off+k*9+1,none⟩) hbl2).trans hc1;replace hc2:=(hb1.cell (p:=⟨b,off+k*9+2,none⟩) hbl2).trans hc2;replace hc3:=(hb1.cell (p:=⟨b,off+k*9+3,none⟩) hbl2).trans hc3;replace hc4:=(hb1.cell (p:=⟨b,off+k*9+4,none⟩) hbl2).trans hc4;replace hc5:=(hb1.cell (p:=⟨b,off+k*9+5,none⟩) hbl2).trans hc5;replace hc6:=(hb1.cell (p:=⟨b,off+k*9+6,none⟩) hbl2).trans hc6;replace hc7:=(hb1.cell (p:=⟨b,off+k*9+7,none⟩) hbl2).trans hc7;replace hc8:=(hb1.cell (p:=⟨b,off+k*9+8,none⟩) hbl2).trans hc8;replace hd0:=(hb1.cell (p:=⟨b',off'+k*9,none⟩) hbl3).trans hd0;replace hd1:=(hb1.cell (p:=⟨b',off'+k*9+1,none⟩) hbl3).trans hd1;replace hd2:=(hb1.cell (p:=⟨b',off'+k*9+2,none⟩) hbl3).trans hd2;replace hd3:=(hb1.cell (p:=⟨b',off'+k*9+3,none⟩) hbl3).trans hd3;replace hd4:=(hb1.cell (p:=⟨b',off'+k*9+4,none⟩) hbl3).trans hd4;replace hd5:=(hb1.cell (p:=⟨b',off'+k*9+5,none⟩) hbl3).trans hd5;replace hd6:=(hb1.cell (p:=⟨b',off'+k*9+6,none⟩) hbl3).trans hd6;replace hd7:=(hb1.cell (p:=⟨b',off'+k*9+7,none⟩) hbl3).trans hd7;replace hd8:=(hb1.cell (p:=⟨b',off'+k*9+8,none⟩) hbl3).trans hd8))
   go_wp2;go_roundw
   case rel=>exact⟨k+1,by omega,by go_num,hb.trans (hb1.mono hzr)⟩
   case measure=>simp [intOf];omega
  ·replace hB:=hB.trans (hb.mono (by omega));replace Z:=Z.below hb;replace O1:=O1.below hb;have hC1:=fun (h:Rl≠ [])=>HE h;clear HC HD HG HI nE hNN;clear x0 x1 x2 y0 y1 y2;go_wp2_with fail
   go_loopw [80] (fun i wr2=>∃k:Nat,k≤Rl.length∧i= .int .i64 k∧Below wr.heap.size wr wr2) (fun i _=>Rl.length-(intOf i).toNat)
   case atStart=>exact⟨0,Nat.zero_le _,rfl,Below.refl _ _⟩
   case round=>
    obtain⟨j,hj,rfl,hb2⟩:=hrel;have hzr2:=hb2.size;have U0:=(hb2.cell (p:=⟨(w1.heap.size),0,none⟩) (by show (w1.heap.size)<_;omega)).trans X0;have V0:=(hb2.cell (p:=⟨(w2.heap.size),0,none⟩) (by show (w2.heap.size)<_;omega)).trans Y0;have U1:=(hb2.cell (p:=⟨(w1.heap.size),1,none⟩) (by show (w1.heap.size)<_;omega)).trans X1;have V1:=(hb2.cell (p:=⟨(w2.heap.size),1,none⟩) (by show (w2.heap.size)<_;omega)).trans Y1;have U2:=(hb2.cell (p:=⟨(w1.heap.size),2,none⟩) (by show (w1.heap.size)<_;omega)).trans X2;have V2:=(hb2.cell (p:=⟨(w2.heap.size),2,none⟩) (by show (w2.heap.size)<_;omega)).trans Y2;clear X0 Y0 X1 Y1 X2 Y2;by_cases hlj:j<Rl.length
    ·obtain⟨b,off,rfl,hbl,hcell⟩:=HE (by intro e;simp [e] at hlj);obtain⟨b',off',rfl,hbl',hcell'⟩:=HF (by intro e;simp [e] at hlj);obtain⟨z0,z1⟩:=hcell j hlj;obtain⟨u0,u1⟩:=hcell' j hlj;have hc0:=(hb2.cell (p:=⟨b,off+j*2,none⟩) (by show b<_;omega)).trans ((hb.cell (p:=⟨b,off+j*2,none⟩) hbl).trans z0);have hd0:=(hb2.cell (p:=⟨b',off'+j*2,none⟩) (by show b'<_;omega)).trans ((hb.cell (p:=⟨b',off'+j*2,none⟩) hbl').trans u0);have hc1:=(hb2.cell (p:=⟨b,off+j*2+1,none⟩) (by show b<_;omega)).trans ((hb.cell (p:=⟨b,off+j*2+1,none⟩) hbl).trans z1);have hd1:=(hb2.cell (p:=⟨b',off'+j*2+1,none⟩) (by show b'<_;omega)).trans ((hb.cell (p:=⟨b',off'+j*2+1,none⟩) hbl').trans u1);clear hcell HE hcell' HF z0 z1 u0 u1 Z O1 hC1;generalize Rl[j]=s at*;obtain⟨t,n⟩:=s;dsimp only at*;have EV:=fun W=>neqLeadV t n W;go_wp2_with fail
     go_quiet (fail)
     go_wp2;go_roundw
     case rel=>exact⟨j+1,by omega,by go_num,below_drewN hb2 _⟩
     case measure=>simp [intOf];omega
    ·clear HE HF hC1;replace hB:=hB.trans (hb2.mono (by omega));replace Z:=Z.below hb2;replace O1:=O1.below hb2;obtain⟨W5,hW5,hC5,Z5⟩:=zi_ wr Z (.slice pa N1.length pc) (.slice pd M1.length pe) (.slice pf Rl.length pg);have hz6:=hC5.size;have hFF:Hid (OwnC W5 w.heap.size W5.heap.size (.slice pa N1.length pc) (.slice pd M1.length pe) (.slice pf Rl.length pg) N1 M1 Rl):=((O1.chg hC5 (fun b hb=> .inl (by omega))).hiN (by omega)).loN (by omega);have hBF:Hid (Below w.heap.size w W5):=hB.trans (hC5.below (B:=w.heap.size) (by omega) (fun b hb=>by omega));obtain⟨zl,z0,z1,z2,f0,f1,f2⟩:=Z.c3f;obtain⟨tl,t0,t1,t2⟩:=Z5.c3;clear hC5 Z hB Z5 O1;unfold put3 at*;go_wp2;rw [←hW5];exact bodyPost_ret (v:= .tuple #[.agg #[.slice pa N1.length pc,.slice pd M1.length pe,.slice pf Rl.length pg],ok,true]) (by simp [results,Tryz.results9,go_sem,t0,t1,t2]) rfl ⟨⟨_,_,_,N1,M1,rfl,hFF.out,N1h.out,M1h.out⟩,hBF.out⟩
end Go.Proofs.YtapfhhmimkkhnaaGreat
