/-
  A cluster marked, a row of bools spared.
  Steps in a row: rows of five cells; szClusterStepS, toClusterStepS, eqClusterStepS, markClusterStepS.
  Bools in a row: eqBoolS, markBoolS, heldBoolS.
  Both PlayClusters in one form; bounds.
  What all have committed: entries compared, the plain side, l12Common.
  What is the same is said to be: sameEntries, sameInts, sameBools, sameNodes.
-/
import Derived.Test.YtapfhhmimkkhnaaGreatM3bToCO
import Derived.Test.YtapfhhmimkkhnaaGreatNCToPP
import Derived.Test.YtapfhhmimkkhnaaGreatAToRF1
import Derived.Test.YtapfhhmimkkhnaaGreatRF5ToP3
import Derived.OwnWalk
import Derived.Deep.RegionHeld3
import Derived.Deep.QuietTactic
import Derived.BigQuiet
import Derived.Test.YtapfhhmimkkhnaaGreatSTToPLI
import Derived.Test.YtapfhhmimkkhnaaGreatSPL
import Derived.Test.YtapfhhmimkkhnaaGreatA2ToC1
import Derived.Test.YtapfhhmimkkhnaaGreatI1ToKC3
import Derived.Test.YtapfhhmimkkhnaaGreatQ3ToQD
import Derived.Laws.StructEq
import Derived.Test.YtapfhhmimkkhnaaGreatP4ToA1
import Derived.Test.YtapfhhmimkkhnaaGreatCAToCE
namespace Go.Proofs.YtapfhhmimkkhnaaGreat
open Go.RowKit Go.Maps
set_option linter.unusedVariables false
set_option maxRecDepth 100000

end Go.Proofs.YtapfhhmimkkhnaaGreat
namespace Go.Proofs.YtapfhhmimkkhnaaGreat
open Go.RowKit
set_option linter.unusedVariables false
set_option maxRecDepth 100000
def Sp.zero:Sp:=⟨0,0,0,0,⟨#[]⟩⟩
instance:Inhabited Sp:=⟨Sp.zero⟩
def flT:List Sp→List Value
 | []=> []
 | s::r=> .int .i64 s.ki:: .int .i64 s.no:: .int .i64 s.k:: .int .i64 s.ma:: .string s.d::flT r
theorem flT_length (l:List Sp):(flT l).length=l.length*5:=by
 induction l with
 | nil=>rfl
 | cons x r ih=>simp only [flT,List.length_cons,ih];omega
theorem flT_append (l m:List Sp):flT (l++m)=flT l++flT m:=by
 induction l with
 | nil=>rfl
 | cons x r ih=>simp only [List.cons_append,flT,ih]
theorem flT_get (l:List Sp) (i:Nat) (h:i<l.length):(flT l)[i*5]? =some (.int .i64 l[i].ki)∧(flT l)[i*5+1]? =some (.int .i64 l[i].no)∧(flT l)[i*5+2]? =some (.int .i64 l[i].k)∧(flT l)[i*5+3]? =some (.int .i64 l[i].ma)∧(flT l)[i*5+4]? =some (.string l[i].d):=by
 induction l generalizing i with
 | nil=>simp at h
 | cons x r ih=>
  cases i with
  | zero=>exact⟨rfl,rfl,rfl,rfl,rfl⟩
  | succ i=>
   have:=ih i (by simpa using h);rw [show (i+1)*5=i*5+1+1+1+1+1 from by omega,show i*5+1+1+1+1+1+1=(i*5+1)+1+1+1+1+1 from by omega,show i*5+1+1+1+1+1+2=(i*5+2)+1+1+1+1+1 from by omega,show i*5+1+1+1+1+1+3=(i*5+3)+1+1+1+1+1 from by omega,show i*5+1+1+1+1+1+4=(i*5+4)+1+1+1+1+1 from by omega];simp only [flT,List.getElem?_cons_succ,List.getElem_cons_succ];exact this
theorem flT_zeros (n:Nat):(madeCells (Value.agg #[.int .i64 0,.int .i64 0,.int .i64 0,.int .i64 0,.string ⟨#[]⟩]).cells (n*5)).toList=flT (List.replicate n Sp.zero):=by
 have hcs:(Value.agg #[.int .i64 0,.int .i64 0,.int .i64 0,.int .i64 0,.string ⟨#[]⟩]).cells=#[.int .i64 0,.int .i64 0,.int .i64 0,.int .i64 0,.string ⟨#[]⟩]:=rfl;rw [hcs];apply List.ext_getElem?;intro i;by_cases hi:i<n*5
 ·obtain⟨j,m,hm,rfl⟩:∃j m,m<5∧i=j*5+m:=⟨i / 5,i % 5,by omega,by omega⟩;have hj:j<(List.replicate n Sp.zero).length:=by simp;omega
  obtain⟨g0,g1,g2,g3,g4⟩:=flT_get _ j hj;obtain rfl | rfl | rfl | rfl | rfl:m=0∨m=1∨m=2∨m=3∨m=4:=by omega
  ·rw [Nat.add_zero] at hi ⊢;rw [g0];simp [madeCells,hi,Sp.zero]
  ·rw [g1];simp [madeCells,hi,Sp.zero]
  ·rw [g2];simp [madeCells,hi,Sp.zero]
  ·rw [g3];simp [madeCells,hi,Sp.zero]
  ·rw [g4];simp [madeCells,hi,Sp.zero]
 ·rw [List.getElem?_eq_none (by simp [madeCells];omega),List.getElem?_eq_none (by rw [flT_length];simp;omega)]
def TR (w:World) (v:Value) (l:List Sp):Prop:=
 ∃a cap,v= .slice a l.length cap∧(l≠ []→∃b off,a=some ⟨b,off,none⟩∧b<w.heap.size∧
  ∀i (h:i<l.length),w.cell? ⟨b,off+i*5,none⟩=some (.int .i64 l[i].ki)∧w.cell? ⟨b,off+i*5+1,none⟩=some (.int .i64 l[i].no)∧w.cell? ⟨b,off+i*5+2,none⟩=some (.int .i64 l[i].k)∧w.cell? ⟨b,off+i*5+3,none⟩=some (.int .i64 l[i].ma)∧w.cell? ⟨b,off+i*5+4,none⟩=some (.string l[i].d))
theorem TR.below {w w':World} {v:Value} {l:List Sp} (h:TR w v l) (hb:Below w.heap.size w w'):TR w' v l:=by
 obtain⟨a,cap,hv,hc⟩:=h;refine⟨a,cap,hv,fun hl=> ?_⟩;obtain⟨b,off,ha,hbl,hcell⟩:=hc hl;refine⟨b,off,ha,Nat.lt_of_lt_of_le hbl hb.size,fun i hi=> ?_⟩;obtain⟨c0,c1,c2,c3,c4⟩:=hcell i hi;exact⟨(hb.cell (p:=⟨b,off+i*5,none⟩) hbl).trans c0,(hb.cell (p:=⟨b,off+i*5+1,none⟩) hbl).trans c1,(hb.cell (p:=⟨b,off+i*5+2,none⟩) hbl).trans c2,(hb.cell (p:=⟨b,off+i*5+3,none⟩) hbl).trans c3,(hb.cell (p:=⟨b,off+i*5+4,none⟩) hbl).trans c4⟩
theorem TR.size {w:World} {v:Value} {l:List Sp} (h:TR w v l):∃a cap,v= .slice a l.length cap:=by obtain⟨a,c,h,_⟩:=h;exact⟨a,c,h⟩
theorem TR_of_owns {w:World} {base n:Nat} {e:TypeId} {v:Value} {l:List Sp} (h:w.ownsRow base e 5 v n (flT l)) (hn:n=l.length):TR w v l:=by
 subst hn;have h':=h;obtain⟨hl,h⟩:=h;rcases h with⟨rfl,h0⟩ | ⟨g,cap,cur,rfl,hbg,hh,hcap,hm,hsz,htk⟩
 ·exact⟨none,0,by rw [h0],fun hne=>absurd (List.length_eq_zero_iff.1 h0) hne⟩
 ·refine⟨_,cap,rfl,fun _=>⟨g,0,rfl,(Array.getElem?_eq_some_iff.1 hh).1,fun i hi=> ?_⟩⟩;obtain⟨g0,g1,g2,g3,g4⟩:=flT_get l i hi;rw [Nat.zero_add];exact⟨by rw [h'.cellAt (i*5) (by omega),g0],by rw [h'.cellAt (i*5+1) (by omega),g1],by rw [h'.cellAt (i*5+2) (by omega),g2],by rw [h'.cellAt (i*5+3) (by omega),g3],by rw [h'.cellAt (i*5+4) (by omega),g4]⟩
theorem Tryz.info51:(Tryz.prog.info? 51).map (fun i=>(i.zero,i.size,i.bytes))=some (some (.agg #[.int .i64 0,.int .i64 0,.int .i64 0,.int .i64 0,.string ⟨#[]⟩]),5,48):=by kernel_rfl
theorem flT_S (l:List Sp):flT l=flatS l:=by
 induction l with
 | nil=>rfl
 | cons x r ih=>simp only [flT,flatS,ih]
def BR (w:World) (v:Value) (D:List Bool):Prop:=
 ∃a cap,v= .slice a D.length cap∧(D≠ []→∃b,a=some ⟨b,0,none⟩∧b<w.heap.size∧∀i (h:i<D.length),w.cell? ⟨b,i,none⟩=some (.bool D[i]))
theorem BR.below {w w':World} {v:Value} {D:List Bool} (h:BR w v D) (hb:Below w.heap.size w w'):BR w' v D:=by
 obtain⟨a,cap,hv,hc⟩:=h;refine⟨a,cap,hv,fun hl=> ?_⟩;obtain⟨b,ha,hbl,hcell⟩:=hc hl;exact⟨b,ha,Nat.lt_of_lt_of_le hbl hb.size,fun i hi=>(hb.cell (p:=⟨b,i,none⟩) hbl).trans (hcell i hi)⟩
theorem BR_of_owns {w:World} {base:Nat} {e:TypeId} {v:Value} {D:List Bool} {n:Nat} (h:w.ownsRow base e 1 v n (D.map .bool)) (hn:n=D.length):BR w v D:=by
 subst hn;have h':=h;rcases h.2 with⟨rfl,h0⟩ | ⟨g,cap,cur,rfl,hbg,hh,_⟩
 ·exact⟨none,0,by rw [h0],fun hne=>absurd (List.length_eq_zero_iff.1 h0) hne⟩
 ·exact⟨_,cap,rfl,fun _=>⟨g,rfl,(Array.getElem?_eq_some_iff.1 hh).1,fun i hi=>by rw [h'.cellAt i (by omega)];simp [hi]⟩⟩
theorem run_neq_bS (w:World) (b:Bool):(binOp .neq 4 (.bool b) (.bool b)).run Tryz.prog w= .ok (.bool false) w:=by
 cases b <;>kernel_rfl
end Go.Proofs.YtapfhhmimkkhnaaGreat
namespace Go.Proofs.YtapfhhmimkkhnaaGreat
open Go.RowKit Go.Maps
set_option linter.unusedVariables false
set_option maxRecDepth 100000
def plR (ok:Bool) (p:Nat) (l:List Sp):PS:=if ok=true then plGo (zF_ p) l else⟨[],[],[]⟩
def plD (ok:Bool) (p:Nat) (l:List Sp):List Bool:=if ok=true then plDid (zF_ p) l else []
def PlB (w':World) (b0:Nat) (ok:Bool) (R:PS) (D:List Bool) (e:Ending):Prop:=
 ∃un um ul N M dv,e= .returned (.tuple #[.agg #[un,um,ul],dv,ok])∧OwnC w' b0 w'.heap.size un um ul N M R.l∧N.map Nv.n=R.n∧M.map Mv.q=R.m∧w'.ownsRow b0 4 1 dv D.length (D.map Value.bool)
theorem OwnC.none (w:World) (lo hi:Nat) (h:lo≤hi):OwnC w lo hi (.slice none 0 0) (.slice none 0 0) (.slice none 0 0) [] [] []:=
 OwnC.of (mid:=lo) (World.ownsRow_nil _ _ _ _) (World.ownsRow_nil _ _ _ _) (World.ownsRow_nil _ _ _ _) (zr_.nil (Nat.le_refl _)) (zr_.nil h) (fun b hb=>by cases hb) (fun b hb=>by cases hb) (fun b hb=>by cases hb)
theorem plA_B {w':World} {b0:Nat} {ok:Bool} {p:Nat} {l:List Sp} {e:Ending} (h:PlA w' b0 ok p l e) (hb:b0≤w'.heap.size):PlB w' b0 ok (plR ok p l) (plD ok p l) e:=by
 rcases h with⟨rfl,un,um,ul,N,M,du,dc,rfl,h1,h2,h3,h4⟩ | ⟨rfl,rfl⟩
 ·exact⟨un,um,ul,N,M,_,rfl,h1,h2,h3,by simp only [plD,if_true];rw [plDid_length];exact h4⟩
 ·exact⟨_,_,_,[],[],_,rfl,OwnC.none _ _ _ hb,rfl,rfl,World.ownsRow_nil _ _ _ _⟩
theorem sm_const {α:Type} (u:α→Nat) (c:Nat) (l:List α) (h:∀i (h:i<l.length),u l[i]≤c):sm u l≤c*l.length:=by
 induction l with
 | nil=>simp [sm]
 | cons x r ih=>
  have h0:=h 0 (by simp);have h1:=ih fun i hi=>by have:=h (i+1) (by simpa using hi);simpa using this
  simp only [sm,List.length_cons,List.getElem_cons_zero] at*;rw [Nat.mul_add];omega
theorem uC_pg {p:Nat} {N:List Nv} {M:List Mv} {L:List Ld} (h:PG p (N.map Nv.n) (M.map Mv.q) L):uC N M L≤20000:=by
 have hn:N.length≤7:=by have:=h.n;have:=h.p7;rw [List.length_map] at*;omega
 have hm:M.length≤60:=by have:=h.m6;rw [List.length_map] at this;exact this
 have hl:=h.l;have a:=sm_const uN 140 N fun i hi=>by
  obtain⟨g,_⟩:=h.g i (by rw [List.length_map];exact hi);rw [List.getElem_map] at g;have h1:=g.ll;have h2:=g.vl;unfold uN;omega
 have b:=sm_const uM 128 M fun i hi=>by
  have g:=h.m M[i].q (List.mem_map.2 ⟨M[i],List.getElem_mem hi,rfl⟩);obtain⟨_,_,_,_,_,_,a7⟩:=zu_ g;unfold uM;rcases kind_in a7 with h | h | h | h <;>rw [h] at a7
  ·rw [(kind_1 a7).2.1];simp
  ·rw [(kind_2 a7).2.2.1];simp
  ·have:=(kind_3 a7).2.1;have:=(kind_3 a7).1.1;omega
  ·rw [(kind_4 a7).2.2.1];simp
 have c:=sm_const uL 2 L fun i hi=>by unfold uL;omega
 unfold uC;omega
theorem plR_bnd (p:Int) (l:List Sp) {N:List Nv} {M:List Mv} (hn:N.map Nv.n=(plR (plOk p l) p.toNat l).n) (hm:M.map Mv.q=(plR (plOk p l) p.toNat l).m):CS N M (plR (plOk p l) p.toNat l).l∧uC N M (plR (plOk p l) p.toNat l).l≤20000:=by
 cases hok:plOk p l with
 | false=>
  rw [hok] at hn hm;simp only [plR,Bool.false_eq_true,if_false,List.map_eq_nil_iff] at hn hm ⊢;subst hn hm;exact⟨⟨by simp,by simp,by simp,fun i h=>by simp at h,fun i h=>by simp at h,fun i h=>by simp at h,fun i h=>by simp at h⟩,by simp [uC,sm]⟩
 | true=>
  rw [hok] at hn hm;simp only [plR,if_true] at hn hm ⊢;have hp:1≤p∧p≤7:=by
   unfold plOk at hok;simp only [Bool.and_eq_true] at hok;simpa [inB] using hok.1
  have g:PG p.toNat (plGo (zF_ p.toNat) l).n (plGo (zF_ p.toNat) l).m (plGo (zF_ p.toNat) l).l:=((newPF p.toNat (by omega) (by omega)).go l).g;rw [←hn,←hm] at g;exact⟨cs_of_pg g,uC_pg g⟩
theorem plD_len (p:Int) (l:List Sp):(plD (plOk p l) p.toNat l).length≤200:=by
 cases hok:plOk p l with
 | false=>simp [plD]
 | true=>
  simp only [plD,if_true,plDid_length];unfold plOk at hok;simp only [Bool.and_eq_true,decide_eq_true_eq] at hok;exact hok.2
theorem stood34:Tryz.prog.stoodInHeld 44=false:=by kernel_rfl
theorem eqFields_nil (d:Nat) (xs ys:Array Value) (P:Program) (w:World):(Op.eqFields d xs ys []).run P w= .ok true w:=rfl
theorem eqFields_cons {d:Nat} {xs ys:Array Value} {f:Field} {fs:List Field} {P:Program} {w:World} {x y:Value} {r:Bool} (hn:f.name≠ "_") (hx:(Go.part f.type xs f.offset).run P w= .ok x w) (hy:(Go.part f.type ys f.offset).run P w= .ok y w) (he:(Op.equalIn d f.type x y).run P w= .ok r w):
  (Op.eqFields d xs ys (f::fs)).run P w=if r=true then (Op.eqFields d xs ys fs).run P w else .ok false w:=by
 rw [Op.eqFields,if_pos hn];simp only [Sem.run_bind,hx,hy,he,Result.andThen_ok]
 cases r <;>simp
def fT:Field:= { name:= "Term",type:=3,offset:=0,embedded:=false,tag:= "",pkgPath:= "",byteOffset:=0 }
def fD:Field:= { name:= "Data",type:=9,offset:=1,embedded:=false,tag:= "",pkgPath:= "",byteOffset:=8 }
theorem fields34:Tryz.prog.fieldsOf 44=#[fT,fD]:=by unfold Program.fieldsOf;rw [Tryz.underlying44];rfl
theorem part9 (xs:Array Value) (i:Nat) (x:Value) (w:World) (h:xs[i]? =some x):(Go.part 9 xs i).run Tryz.prog w= .ok x w:=by simp [Go.part,isAgg,run_underlying Tryz.underlying9,h]
theorem part3 (xs:Array Value) (i:Nat) (x:Value) (w:World) (h:xs[i]? =some x):(Go.part 3 xs i).run Tryz.prog w= .ok x w:=by simp [Go.part,isAgg,run_underlying Tryz.underlying3,h]
def enEq (a b:En):Bool:=(a.t==b.t)&&(a.d.toList==b.d.toList)
theorem equalEnt (a b:En) (w:World):(Op.equalIn (9999+1) 44 (.agg #[a.t,a.d]) (.agg #[b.t,b.d])).run Tryz.prog w= .ok (enEq a b) w:=by
 have hu:Tryz.prog.underlying 44=some (.struct (Tryz.prog.fieldsOf 44)):=by rw [fields34];exact Tryz.underlying44
 rw [run_equalIn_struct w 9999 44 _ _ hu stood34,fields34];have h1:=eqFields_cons (d:=9999) (xs:=#[a.t,a.d]) (ys:=#[b.t,b.d]) (f:=fT) (fs:= [fD]) (x:= .int .i64 a.t) (y:= .int .i64 b.t) (by decide) (part3 _ 0 _ w rfl) (part3 _ 0 _ w rfl) (run_equalIn_int w 9998 3 .i64 .i64 _ _ Tryz.underlying3);have h2:=eqFields_cons (d:=9999) (xs:=#[a.t,a.d]) (ys:=#[b.t,b.d]) (f:=fD) (fs:= []) (x:= .string a.d) (y:= .string b.d) (by decide) (part9 _ 1 _ w rfl) (part9 _ 1 _ w rfl) (run_equalIn_string w 9998 9 _ _ Tryz.underlying9);show (Op.eqFields 9999 _ _ [fT,fD]).run Tryz.prog w=_;rw [h1,h2,eqFields_nil];unfold enEq
 cases (a.t==b.t) <;>cases (a.d.toList==b.d.toList) <;>rfl
theorem neqEntV (a b:En) (w:World):(binOp .neq 44 (.agg #[a.t,a.d]) (.agg #[b.t,b.d])).run Tryz.prog w= .ok (.bool (!enEq a b)) w:=by
 rw [run_neq_struct];show (Sem.run Tryz.prog (Op.equalIn (9999+1) 44 _ _) w).andThen _=_;rw [equalEnt]
 rfl
def eqAt (a b:List En) (j:Nat):Bool:=if h:j<a.length∧j<b.length then enEq a[j] b[j] else false
def okN (L0:List En) (x:Nd) (j:Nat):Bool:=decide ((j:Int)<x.co)&&eqAt L0 x.log j
def IsCm (L0:List En) (N:List Nd) (m:Nat):Prop:=(∀j,j<m→∀i (h:i<N.length),okN L0 N[i] j=true)∧∃i,∃h:i<N.length,okN L0 N[i] m=false
theorem IsCm.one {L0:List En} {N:List Nd} {m m':Nat} (h:IsCm L0 N m) (h':IsCm L0 N m'):m=m':=by
 obtain⟨i,hi,e⟩:=h.2;obtain⟨i',hi',e'⟩:=h'.2;by_cases h1:m<m'
 ·have:=h'.1 m h1 i hi;rw [e] at this;cases this
 ·by_cases h2:m'<m
  ·have:=h.1 m' h2 i' hi';rw [e'] at this;cases this
  ·omega
open Classical in
theorem goodC_co {N:List Nv} {M:List Ms} {L:List Ld} (h:goodC (N.map Nv.n) M L=true):1≤N.length∧N.length≤7∧∀i (hi:i<N.length),0≤N[i].n.co∧N[i].n.co≤(N[i].n.log.length:Int)∧N[i].n.log.length≤60:=by
 unfold goodC at h;simp only [List.length_map,Bool.and_eq_true,decide_eq_true_eq] at h;refine⟨h.1.1,h.1.2,fun i hi=> ?_⟩;have hn:=of_decide_eq_true h.2.1;have:=hn i (by simpa using hi);simp only [ndOk,gNd,List.getElem_map,Bool.and_eq_true] at this;exact⟨(goodN_co this.1).1,(goodN_co this.1).2,(goodN_bounds this.1).2.2.2.2⟩
theorem below_drewN {B:Nat} {w w':World} (h:Below B w w') (q:Nat):Below B w (w'.drewN q):=by
 induction q with
 | zero=>exact h
 | succ q ih=>exact ih.drew
set_option maxHeartbeats 8000000
theorem sameEntries_same (u v:Value) (l:List En) (w:World) (hu:ER w u l) (hv:ER w v l) (hn:l.length≤1048576):
  Calls Tryz.prog 13 #[u,v] w fun e w'=>e= .returned (.bool true)∧Below w.heap.size w w':=by
 obtain⟨a,cap,rfl,hc⟩:=hu;obtain⟨a',cap',rfl,hc'⟩:=hv;go_enter Tryz.func13,Tryz.ntmps13;go_wp2
 go_loopw [13] (fun i wr=>∃k:Nat,k≤l.length∧i= .int .i64 k∧Below w.heap.size w wr) (fun i _=>l.length-(intOf i).toNat)
 case atStart=>exact⟨0,Nat.zero_le _,rfl,Below.refl _ _⟩
 case round=>
  obtain⟨k,hk,rfl,hb⟩:=hrel;by_cases hlt:k<l.length
  ·obtain⟨b,off,rfl,hbl,hcell⟩:=hc (by intro e;simp [e] at hlt);obtain⟨b',off',rfl,hbl',hcell'⟩:=hc' (by intro e;simp [e] at hlt);have hc0:=(hb.cell (p:=⟨b,off+k*2,none⟩) hbl).trans (hcell k hlt).1;have hc1:=(hb.cell (p:=⟨b,off+k*2+1,none⟩) hbl).trans (hcell k hlt).2;have hd0:=(hb.cell (p:=⟨b',off'+k*2,none⟩) hbl').trans (hcell' k hlt).1;have hd1:=(hb.cell (p:=⟨b',off'+k*2+1,none⟩) hbl').trans (hcell' k hlt).2;clear hcell hcell' hc hc';have EV:=fun W=>neqEntV l[k] l[k] W;rw [show enEq l[k] l[k]=true from by simp [enEq]] at EV;simp only [Bool.not_true] at EV;generalize l[k].t=t0 at*;generalize l[k].d=d0 at*;go_wp2_with fail
   go_quiet (fail)
   go_wp2;go_roundw
   case rel=>exact⟨k+1,by omega,by go_num,below_drewN hb _⟩
   case measure=>simp [intOf];omega
  ·clear hc hc';go_wp2;go_ret;exact⟨rfl,hb⟩
theorem sameInts_same (u v:Value) (l:List Int) (w:World) (hu:IL w u l) (hv:IL w v l) (hn:l.length≤1048576):
  Calls Tryz.prog 67 #[u,v] w fun e w'=>e= .returned (.bool true)∧Below w.heap.size w w':=by
 obtain⟨a,cap,rfl,hc⟩:=hu;obtain⟨a',cap',rfl,hc'⟩:=hv;go_enter Tryz.func67,Tryz.ntmps67;go_wp2
 go_loopw [13] (fun i wr=>∃k:Nat,k≤l.length∧i= .int .i64 k∧Below w.heap.size w wr) (fun i _=>l.length-(intOf i).toNat)
 case atStart=>exact⟨0,Nat.zero_le _,rfl,Below.refl _ _⟩
 case round=>
  obtain⟨k,hk,rfl,hb⟩:=hrel;by_cases hlt:k<l.length
  ·obtain⟨b,off,rfl,hbl,hcell⟩:=hc (by intro e;simp [e] at hlt);obtain⟨b',off',rfl,hbl',hcell'⟩:=hc' (by intro e;simp [e] at hlt);have hc0:wr.cell? ⟨b,off+k,none⟩=some (.int .i64 l[k]):=(hb.cell (p:=⟨b,off+k,none⟩) hbl).trans (hcell k hlt);have hd0:wr.cell? ⟨b',off'+k,none⟩=some (.int .i64 l[k]):=(hb.cell (p:=⟨b',off'+k,none⟩) hbl').trans (hcell' k hlt);clear hcell hcell' hc hc';generalize l[k]=c at*;go_wp2_with fail
   go_quiet (fail)
   go_wp2;go_roundw
   case rel=>exact⟨k+1,by omega,by go_num,below_drewN hb _⟩
   case measure=>simp [intOf];omega
  ·clear hc hc';go_wp2;go_ret;exact⟨rfl,hb⟩
theorem sameBools_same (u v:Value) (l:List Bool) (w:World) (hu:BR w u l) (hv:BR w v l) (hn:l.length≤1048576):
  Calls Tryz.prog 32 #[u,v] w fun e w'=>e= .returned (.bool true)∧Below w.heap.size w w':=by
 obtain⟨a,cap,rfl,hc⟩:=hu;obtain⟨a',cap',rfl,hc'⟩:=hv;go_enter Tryz.func32,Tryz.ntmps32;go_wp2
 go_loopw [13] (fun i wr=>∃k:Nat,k≤l.length∧i= .int .i64 k∧Below w.heap.size w wr) (fun i _=>l.length-(intOf i).toNat)
 case atStart=>exact⟨0,Nat.zero_le _,rfl,Below.refl _ _⟩
 case round=>
  obtain⟨k,hk,rfl,hb⟩:=hrel;by_cases hlt:k<l.length
  ·obtain⟨b,rfl,hbl,hcell⟩:=hc (by intro e;simp [e] at hlt);obtain⟨b',rfl,hbl',hcell'⟩:=hc' (by intro e;simp [e] at hlt);have hc0:wr.cell? ⟨b,k,none⟩=some (.bool l[k]):=(hb.cell (p:=⟨b,k,none⟩) hbl).trans (hcell k hlt);have hd0:wr.cell? ⟨b',k,none⟩=some (.bool l[k]):=(hb.cell (p:=⟨b',k,none⟩) hbl').trans (hcell' k hlt);have NB:=run_neq_bS;clear hcell hcell' hc hc';generalize l[k]=c at*;go_wp2_with fail
   go_quiet (fail)
   go_wp2;go_roundw
   case rel=>exact⟨k+1,by omega,by go_num,below_drewN hb _⟩
   case measure=>simp [intOf];omega
  ·clear hc hc';go_wp2;go_ret;exact⟨rfl,hb⟩
theorem sameNodes_same (id pe te vo co ro:Int) (ul uv um vl vv vm:Value) (log:List En) (vs mt:List Int) (w:World) (h1:ER w ul log) (h2:IL w uv vs) (h3:IL w um mt) (h4:ER w vl log) (h5:IL w vv vs) (h6:IL w vm mt) (n1:log.length≤1048576) (n2:vs.length≤1048576) (n3:mt.length≤1048576):
  Calls Tryz.prog 33 #[.agg #[id,pe,te,vo,ul,co,ro,uv,um],.agg #[id,pe,te,vo,vl,co,ro,vv,vm]] w fun e w'=>e= .returned (.bool true)∧Below w.heap.size w w':=by
 obtain⟨W0,hW0,hB,X,Y,_⟩:=al2 w [id,pe,te,vo,ul,co,ro,uv,um] 42 [id,pe,te,vo,vl,co,ro,vv,vm] 42;have K1:=fun W (q:Below w.heap.size w W)=>sameEntries_same ul vl log W (h1.below q) (h4.below q) n1;have K2:=fun W (q:Below w.heap.size w W)=>sameInts_same uv vv vs W (h2.below q) (h5.below q) n2;have K3:=fun W (q:Below w.heap.size w W)=>sameInts_same um vm mt W (h3.below q) (h6.below q) n3;obtain⟨la,lc,rfl,_⟩:=h1;obtain⟨va,vc,rfl,_⟩:=h2;obtain⟨ma,mc,rfl,_⟩:=h3;obtain⟨la',lc',rfl,_⟩:=h4;obtain⟨va',vc',rfl,_⟩:=h5;obtain⟨ma',mc',rfl,_⟩:=h6;obtain⟨xl,x0,x1,x2,x3,x4,x5,x6,x7,x8⟩:=X.e9;obtain⟨yl,y0,y1,y2,y3,y4,y5,y6,y7,y8⟩:=Y.e9;go_enter Tryz.func33,Tryz.ntmps33;go_wp2_with fail;rw [←hW0];clear hW0;refine (K1 _ hB).mono ?_;rintro e w1 ⟨rfl,hb⟩;replace hB:=za_ hB hb;replace X:=X.below hb;replace Y:=Y.below hb;clear hb;clear xl x0 x1 x2 x3 x4 x5 x6 x7 x8 yl y0 y1 y2 y3 y4 y5 y6 y7 y8;obtain⟨xl,x0,x1,x2,x3,x4,x5,x6,x7,x8⟩:=X.e9;obtain⟨yl,y0,y1,y2,y3,y4,y5,y6,y7,y8⟩:=Y.e9;go_wp2_with fail;refine (K2 _ hB).mono ?_;rintro e w2 ⟨rfl,hb⟩;replace hB:=za_ hB hb;replace X:=X.below hb;replace Y:=Y.below hb;clear hb;clear xl x0 x1 x2 x3 x4 x5 x6 x7 x8 yl y0 y1 y2 y3 y4 y5 y6 y7 y8;obtain⟨xl,x0,x1,x2,x3,x4,x5,x6,x7,x8⟩:=X.e9;obtain⟨yl,y0,y1,y2,y3,y4,y5,y6,y7,y8⟩:=Y.e9;go_wp2_with fail;refine (K3 _ hB).mono ?_;rintro e w3 ⟨rfl,hb⟩;replace hB:=za_ hB hb;replace X:=X.below hb;replace Y:=Y.below hb;clear hb;clear xl x0 x1 x2 x3 x4 x5 x6 x7 x8 yl y0 y1 y2 y3 y4 y5 y6 y7 y8;clear X Y K1 K2 K3;go_wp2;go_ret;exact⟨rfl,hB⟩
end Go.Proofs.YtapfhhmimkkhnaaGreat
