/-
  What nodes do, in one form: TimeoutNode, ProposeNode, CrashNode, AppendFor, HandleMsg.
  What the laws of clusters lean on.
  A cluster copied: impl's copyMessage, copyCluster.
  A cluster copied: impl's copyCluster.
  What the moves lean on.
  A play, plainly; steps in rows.
  A message taken out: slices.Delete, impl's without.
  A message lost: impl's moveLose; moveNothing.
  A message delivered: impl's moveDeliver.
  A step: impl's StepCluster.
  A play: impl's PlayCluster.
-/
import Derived.Test.YtapfhhmimkkhnaaCWToHM
import Derived.Test.YtapfhhmimkkhnaaA4ToU1
import Derived.Test.YtapfhhmimkkhnaaN1ToA3
import Derived.Test.YtapfhhmimkkhnaaF6
import Derived.Test.YtapfhhmimkkhnaaG1
import Derived.Test.YtapfhhmimkkhnaaQ3ToQD
import Derived.Test.YtapfhhmimkkhnaaM3bToCO
import Derived.Deep.RegionHeld3
import Derived.Test.YtapfhhmimkkhnaaRS3
import Derived.ArgAppend
import Derived.Deep.Cut
import Derived.Laws.EntriesVeiled
namespace Go.Proofs.Ytapfhhmimkkhnaa
open Go.RowKit Go.Maps
set_option linter.unusedVariables false
set_option maxRecDepth 100000
def NodeA (w w':World) (ok:Bool) (z:Nd) (A:List Ms) (e:Ending):Prop:=
 (ok=true∧∃(x:Nv) (AB:List Mv) (qa:Option Addr) (qc:Nat),e= .returned (.tuple #[.agg x,.slice qa AB.length qc,true])∧x.n=z∧PN w' w.heap.size x∧AB.map Mv.q=A∧(∀a∈AB,a.ea=none∧a.ec=0∧a.q.es= [])∧AB.length≤100∧w'.ownsRow w.heap.size 38 9 (.slice qa AB.length qc) AB.length (zu_ AB))∨
 (ok=false∧∃(x:Nv),e= .returned (.tuple #[.agg x,(),false]))
theorem nodeA_of {w w':World} {z:Nd} {A:List Ms} {uq:Value} (x:Nv) (hz:x.n=z) (hp:PN w' w.heap.size x) (hA:∀a∈A,a.es= []) (hl:A.length≤100) (hq:w'.ownsRow w.heap.size 38 9 uq A.length (zu_ (A.map bareM))):NodeA w w' true z A (.returned (.tuple #[.agg x,uq,true])):=by
 obtain⟨qa,qc,rfl⟩:=zf_ hq;have e:A.length=(A.map bareM).length:=(List.length_map _).symm;rw [e] at hq hl ⊢;exact .inl ⟨rfl,x,A.map bareM,qa,qc,rfl,hz,hp,bare_q hA,fun a ha=>by obtain⟨b,_,rfl⟩:=List.mem_map.1 ha;exact⟨rfl,rfl,rfl⟩,hl,hq⟩
theorem tmA_es (x:Nd):∀a∈tmA x,a.es= []:=fun a ha=>by
 obtain⟨j,_,_,rfl⟩:=tmA_mem ha;rfl
theorem hmA_es (x:Nd) (m:Ms):∀a∈hmA x m,a.es= []:=by
 intro a ha;unfold hmA at ha
 split at ha
 ·obtain rfl:=List.mem_singleton.1 ha;rfl
 ·split at ha
  ·obtain rfl:=List.mem_singleton.1 ha;unfold appM;split
   ·rfl
   ·split <;>rfl
  ·simp at ha
theorem hmA_len (x:Nd) (m:Ms):(hmA x m).length≤1:=by
 unfold hmA;split
 ·simp
 ·split <;>simp
def NodeB (w w':World) (ok:Bool) (z:Nd) (e:Ending):Prop:=
 (ok=true∧∃(x:Nv),e= .returned (.tuple #[.agg x,true])∧x.n=z∧PN w' w.heap.size x)∨
 (ok=false∧∃(x:Nv),e= .returned (.tuple #[.agg x,false]))
def NodeI (w w':World) (ok:Bool) (z:Nd) (e:Ending):Prop:=
 (ok=true∧∃(x:Nv) (i:Int),e= .returned (.tuple #[.agg x,i,true])∧x.n=z∧PN w' w.heap.size x)∨
 (ok=false∧∃(x:Nv) (i:Int),e= .returned (.tuple #[.agg x,i,false]))
def MsgA (w w':World) (ok:Bool) (z:Ms) (e:Ending):Prop:=
 (ok=true∧∃(x:Mv),e= .returned (.tuple #[.agg x,true])∧x.q=z∧PM w' w.heap.size x)∨
 (ok=false∧∃(x:Mv),e= .returned (.tuple #[.agg x,false]))
theorem tmA_bare (x:Nd):zu_ ((tmA x).map bareM)=flat9 (zT_ x.id (x.te+1) x.log.length (tmAt x.log x.log.length) x.pe.toNat):=by
 rw [flatM_bare];unfold tmA;rw [List.map_map]
 congr 1
 conv=>rhs;rw [←List.map_id (zT_ x.id (x.te+1) x.log.length (tmAt x.log x.log.length) x.pe.toNat)]
 rfl
theorem tmA_len (x:Nd):(tmA x).length=(zT_ x.id (x.te+1) x.log.length (tmAt x.log x.log.length) x.pe.toNat).length:=by unfold tmA;rw [List.length_map]
theorem tmX_at (x:Nd):(tmX x).id=x.id∧(tmX x).pe=x.pe∧(tmX x).te=x.te+1∧(tmX x).vo=x.id∧(tmX x).co=x.co∧(tmX x).log=x.log:=by
 unfold tmX tmN;split <;>exact⟨rfl,rfl,rfl,rfl,rfl,rfl⟩
theorem nv_of {w:World} {c:Nat} {ul uv um:Value} (z:Nd) (h:OwnN w c ul uv um z.log z.vs z.mt):∃x:Nv,x.n=z∧ul= .slice x.la x.n.log.length x.lc∧uv= .slice x.va x.n.vs.length x.vc∧um= .slice x.ma x.n.mt.length x.mc∧PN w c x:=by
 obtain⟨⟨la,lc,rfl⟩,⟨va,vc,rfl⟩,ma,mc,rfl⟩:=h.shapes;exact⟨⟨z,la,lc,va,vc,ma,mc⟩,rfl,rfl,rfl,rfl,h⟩
theorem mv_of {w:World} {c:Nat} {ue:Value} (z:Ms) (h:w.ownsRow c 34 2 ue z.es.length (zE_ z.es)):∃x:Mv,x.q=z∧ue= .slice x.ea x.q.es.length x.ec∧PM w c x:=by
 obtain⟨a,b,rfl⟩:=zf_ h;exact⟨⟨z,a,b⟩,rfl,rfl,h⟩
end Go.Proofs.Ytapfhhmimkkhnaa
namespace Go.Proofs.Ytapfhhmimkkhnaa
open Go.RowKit
set_option linter.unusedVariables false
set_option maxRecDepth 100000
theorem map_at {α β:Type} {f:α→β} {l l':List α} (h:l'.map f=l.map f) (i:Nat) (hi:i<l'.length):∃hi2:i<l.length,f l'[i]=f l[i]:=by
 have hl:l'.length=l.length:=by have:=congrArg List.length h;simpa using this
 refine⟨by omega,?_⟩;have:=congrArg (fun t=>t[i]?) h;simpa [hi,show i<l.length from by omega] using this
theorem CS.same {N N':List Nv} {M M':List Mv} {L:List Ld} (h:CS N M L) (hn:N'.map Nv.n=N.map Nv.n) (hm:M'.map Mv.q=M.map Mv.q):CS N' M' L:=by
 have l1:N'.length=N.length:=by have:=congrArg List.length hn;simpa using this
 have l2:M'.length=M.length:=by have:=congrArg List.length hm;simpa using this
 refine⟨by rw [l1];exact h.n,by rw [l2];exact h.m,h.l,fun i hi=> ?_,fun i hi=> ?_,fun i hi j hj=> ?_,fun i hi j hj=> ?_⟩
 ·obtain⟨h2,e⟩:=map_at hn i hi;rw [e];exact h.ne i h2
 ·obtain⟨h2,e⟩:=map_at hm i hi;rw [e];exact h.me i h2
 ·obtain⟨h2,e⟩:=map_at hn i hi;simp only [e] at hj ⊢;exact h.ns i h2 j hj
 ·obtain⟨h2,e⟩:=map_at hm i hi;simp only [e] at hj ⊢;exact h.ms i h2 j hj
end Go.Proofs.Ytapfhhmimkkhnaa
namespace Go.Proofs.Ytapfhhmimkkhnaa
open Go.RowKit Go.Maps
set_option linter.unusedVariables false
set_option maxRecDepth 100000
theorem map_more {α β:Type} (f:α→β) (P l:List α) (k:Nat) (hk:k<l.length) (h:P.map f=(l.take k).map f) (x:α) (hx:f x=f l[k]):(P++ [x]).map f=(l.take (k+1)).map f:=by
 rw [List.map_append,h,List.take_succ_eq_append_getElem hk,List.map_append,List.map_singleton,List.map_singleton,hx]
def CopyA (w w':World) (N:List Nv) (M:List Mv) (L:List Ld) (e:Ending):Prop:=
 ∃un um ul N' M',e= .returned (.agg #[un,um,ul])∧OwnC w' w.heap.size w'.heap.size un um ul N' M' L∧N'.map Nv.n=N.map Nv.n∧M'.map Mv.q=M.map Mv.q
def StepA (w':World) (lo:Nat) (ok:Bool) (N2:List Nd) (M2:List Ms) (L2:List Ld) (e:Ending):Prop:=
 (ok=true∧∃un um ul N' M',e= .returned (.tuple #[.agg #[un,um,ul],true])∧OwnC w' lo w'.heap.size un um ul N' M' L2∧N'.map Nv.n=N2∧M'.map Mv.q=M2)∨
 (ok=false∧∃(a1:Option Addr) (n1 c1:Nat) (a2:Option Addr) (n2 c2:Nat) (a3:Option Addr) (n3 c3:Nat),e= .returned (.tuple #[.agg #[.slice a1 n1 c1,.slice a2 n2 c2,.slice a3 n3 c3],false]))
theorem Box.c5 {w:World} {b:Nat} {u v t x y:Value} (h:Box w b [u,v,t,x,y]):b<w.heap.size∧w.cell? ⟨b,0,none⟩=some u∧w.cell? ⟨b,1,none⟩=some v∧w.cell? ⟨b,2,none⟩=some t∧w.cell? ⟨b,3,none⟩=some x∧w.cell? ⟨b,4,none⟩=some y:=⟨h.1,h.2.1 0 _ rfl,h.2.1 1 _ rfl,h.2.1 2 _ rfl,h.2.1 3 _ rfl,h.2.1 4 _ rfl⟩
def TyB (w:World) (b:Nat) (t:TypeId):Prop:=∃cur,w.heap[b]? =some (.cells cur t (0,0))
theorem TyB.lt {w:World} {b:Nat} {t:TypeId} (h:TyB w b t):b<w.heap.size:=by
 obtain⟨cur,h⟩:=h;exact (Array.getElem?_eq_some_iff.1 h).1
theorem TyB.below {w w':World} {b:Nat} {t:TypeId} (h:TyB w b t) (hb:Below w.heap.size w w'):TyB w' b t:=by
 have hl:=h.lt;obtain⟨cur,h⟩:=h;exact⟨cur,(hb.block b hl).trans h⟩
theorem TyB.chg {S:Nat→Prop} {w w':World} {b:Nat} {t:TypeId} (h:TyB w b t) (hc:Chg S w w') (hs:¬S b):TyB w' b t:=by
 have hl:=h.lt;obtain⟨cur,h⟩:=h;exact⟨cur,(hc.block b hl hs).trans h⟩
theorem TyB.ne {w:World} {b base size n:Nat} {t e:TypeId} {v:Value} {xs:List Value} (h:TyB w b t) (ho:w.ownsRow base e size v n xs) (hne:t≠e):¬v.ownBlock=some b:=by
 intro hb;obtain⟨cur,h⟩:=h;rcases ho.2 with⟨rfl,_⟩ | ⟨g,cap,cur2,rfl,_,hh,_⟩
 ·cases hb
 ·simp only [Value.ownBlock,Option.some.injEq] at hb;subst hb;rw [h] at hh;simp only [Option.some.injEq,Obj.cells.injEq] at hh;exact hne hh.2.1
theorem OwnC.keep {w w':World} {lo hi b:Nat} {vn vm vl:Value} {N:List Nv} {M:List Mv} {L:List Ld} (h:OwnC w lo hi vn vm vl N M L) (ht:TyB w b 60) (hC:Chg (fun k=>k=b) w w'):OwnC w' lo hi vn vm vl N M L:=by
 have q:∀ {base size n:Nat} {e:TypeId} {v:Value} {xs:List Value},w.ownsRow base e size v n xs→60≠e→w'.ownsRow base e size v n xs:=fun ho hne=>hC.owns ho fun g hg e=>ht.ne ho hne (by rw [hg,e]);exact⟨q h.n (by decide),q h.m (by decide),q h.l (by decide),h.cn.map fun c x hp _=>⟨q (OwnN.l hp) (by decide),q (OwnN.v hp) (by decide),q (OwnN.m hp) (by decide),OwnN.ne hp⟩,h.cm.map fun c x hp _=>q hp (by decide),h.ap,h.bn,h.bm,h.bl⟩
theorem zS_ {N:List Nv} {j:Nat} (hj:j<N.length):atN (N.map Nv.n) (j:Int)=N[j].n:=by
 simp [atN,List.getD,hj]
theorem atM_map {M:List Mv} {j:Nat} (hj:j<M.length):atM (M.map Mv.q) (j:Int)=M[j].q:=by
 simp [atM,List.getD,hj]
theorem isP_nat {i:Int} {n:Nat} (h:isP i n=true):∃j:Nat,i=(j:Int)∧j<n:=by
 simp only [isP,Bool.and_eq_true,decide_eq_true_eq] at h;exact⟨i.toNat,by omega,by omega⟩
theorem isP_of {j n:Nat} (h:j<n):isP (j:Int) n=true:=by
 simp only [isP,Bool.and_eq_true,decide_eq_true_eq];omega
theorem map_set {α β:Type} (f:α→β) (l:List α) (j:Nat) (x:α):(l.set j x).map f=(l.map f).set j (f x):=List.map_set
theorem OwnC.hbl {w:World} {lo hi:Nat} {vn vm vl:Value} {N:List Nv} {M:List Mv} {L:List Ld} (h:OwnC w lo hi vn vm vl N M L):Hid (∀b,(vn.ownBlock=some b∨vm.ownBlock=some b∨vl.ownBlock=some b)→lo≤b∧b<hi):=fun b hb=>by
 rcases hb with q | q | q
 ·exact⟨ze_ h.n b q,h.bn b q⟩
 ·exact⟨ze_ h.m b q,h.bm b q⟩
 ·exact⟨ze_ h.l b q,h.bl b q⟩
structure PS where
 n:List Nd
 m:List Ms
 l:List Ld
def plStep (c:PS) (s:Sp):PS:=if stB c.n c.m s=true then⟨stN c.n c.m s,stM c.n c.m s,stL c.n c.m c.l s⟩ else c
def plGo (c:PS):List Sp→PS
 | []=>c
 | s::r=>plGo (plStep c s) r
def plDid (c:PS):List Sp→List Bool
 | []=> []
 | s::r=>stB c.n c.m s::plDid (plStep c s) r
theorem plDid_length (c:PS) (l:List Sp):(plDid c l).length=l.length:=by
 induction l generalizing c with
 | nil=>rfl
 | cons s r ih=>simp [plDid,ih]
theorem plGo_snoc (c:PS) (l:List Sp) (s:Sp):plGo c (l++ [s])=plStep (plGo c l) s:=by
 induction l generalizing c with
 | nil=>rfl
 | cons x r ih=>exact ih _
theorem plDid_snoc (c:PS) (l:List Sp) (s:Sp):plDid c (l++ [s])=plDid c l++ [stB (plGo c l).n (plGo c l).m s]:=by
 induction l generalizing c with
 | nil=>rfl
 | cons x r ih=>simp only [List.cons_append,plDid,ih,plGo]
structure PF (p:Nat) (c:PS):Prop where
 g:PG p c.n c.m c.l
 f:Fits p c.n c.m c.l
theorem PF.step {p:Nat} {c:PS} (h:PF p c) (s:Sp):PF p (plStep c s):=by
 unfold plStep
 split
 ·rename_i hs
  exact⟨h.g.step s hs,h.g.fits h.f s hs⟩
 ·exact h
theorem PF.go {p:Nat} {c:PS} (h:PF p c) (l:List Sp):PF p (plGo c l):=by
 induction l generalizing c with
 | nil=>exact h
 | cons s r ih=>exact ih (h.step s)
def yc_ (p:Nat):PS:=⟨(newNs p p).map Nv.n,[],[]⟩
theorem newGd (i p:Nat) (hi:i<p) (hp:p≤7):Gd (newN i p):=
 ⟨by show (1:Int)≤p;omega,by show (p:Int)≤7;omega,by show (0:Int)≤i;omega,by show (i:Int)<p;omega,by show (0:Int)≤0;omega,by show (0:Int)≤1000;omega,by show (-1:Int)≤ -1;omega,by show (-1:Int)<p;omega,by simp [newN,gE],by simp [newN],by show (0:Int)≤0;omega,by simp [newN],by show zC_ _ _ _ _ 0 _ [] []=true;rw [goodRo_0];simp⟩
theorem newPF (p:Nat) (h1:1≤p) (h7:p≤7):PF p (yc_ p):=by
 have hl:((newNs p p).map Nv.n).length=p:=by rw [List.length_map,newNs_length]
 have ha:∀j (h:j<((newNs p p).map Nv.n).length),((newNs p p).map Nv.n)[j]=newN j p:=fun j h=>by
  rw [List.getElem_map,newNs_at]
 refine⟨⟨h1,h7,hl,fun j h=> ?_,by simp [yc_],fun m hm=>by simp [yc_] at hm,by simp [yc_],fun l hl=>by simp [yc_] at hl⟩,Fits.new p _ hl fun j h=> ?_⟩
 ·have e:(yc_ p).n[j]=newN j p:=ha j h;rw [e];have hj:j<p:=by have h':j<((newNs p p).map Nv.n).length:=h;rw [hl] at h';exact h'
  exact⟨newGd j p hj h7,rfl,rfl,by simp [zv_,cmN,newN]⟩
 ·have e:(yc_ p).n[j]=newN j p:=ha j h;rw [e];exact⟨rfl,rfl,rfl,rfl,rfl⟩
def flatS:List Sp→List Value
 | []=> []
 | s::r=> .int .i64 s.ki:: .int .i64 s.no:: .int .i64 s.k:: .int .i64 s.ma:: .string s.d::flatS r
theorem flatS_get (l:List Sp) (i:Nat) (h:i<l.length):(flatS l)[i*5]? =some (.int .i64 l[i].ki)∧(flatS l)[i*5+1]? =some (.int .i64 l[i].no)∧(flatS l)[i*5+2]? =some (.int .i64 l[i].k)∧(flatS l)[i*5+3]? =some (.int .i64 l[i].ma)∧(flatS l)[i*5+4]? =some (.string l[i].d):=by
 induction l generalizing i with
 | nil=>simp at h
 | cons x r ih=>
  cases i with
  | zero=>exact⟨rfl,rfl,rfl,rfl,rfl⟩
  | succ i=>
   have:=ih i (by simpa using h);simp only [flatS,List.getElem_cons_succ];have e:∀(m:Nat) (q0 q1 q2 q3 q4:Value) (L:List Value),(q0::q1::q2::q3::q4::L)[(i+1)*5+m]? =L[i*5+m]? :=by
    intro m q0 q1 q2 q3 q4 L;rw [show (i+1)*5+m=(i*5+m)+1+1+1+1+1 from by omega];simp only [List.getElem?_cons_succ]
   have e0:=e 0;simp only [Nat.add_zero] at e0;rw [e0,e 1,e 2,e 3,e 4];exact this
theorem stepsAt {w:World} {v:Value} {l:List Sp} (h:zP_ w 5 v l.length (flatS l)) (hne:l≠ []):∃b off cap,v= .slice (some ⟨b,off,none⟩) l.length cap∧b<w.heap.size∧∀i (hi:i<l.length),w.cell? ⟨b,off+i*5,none⟩=some (.int .i64 l[i].ki)∧w.cell? ⟨b,off+i*5+1,none⟩=some (.int .i64 l[i].no)∧w.cell? ⟨b,off+i*5+2,none⟩=some (.int .i64 l[i].k)∧w.cell? ⟨b,off+i*5+3,none⟩=some (.int .i64 l[i].ma)∧w.cell? ⟨b,off+i*5+4,none⟩=some (.string l[i].d):=by
 obtain⟨_,a,cap,rfl,h⟩:=h;have hl:0<l.length:=List.length_pos_iff.2 hne;rcases h with⟨_,h0⟩ | ⟨b,off,rfl,hb,hc⟩
 ·omega
 ·refine⟨b,off,cap,rfl,hb,fun i hi=> ?_⟩;obtain⟨g0,g1,g2,g3,g4⟩:=flatS_get l i hi;exact⟨hc _ _ g0,by rw [Nat.add_assoc];exact hc _ _ g1,by rw [Nat.add_assoc];exact hc _ _ g2,by rw [Nat.add_assoc];exact hc _ _ g3,by rw [Nat.add_assoc];exact hc _ _ g4⟩
theorem OwnC.keepT {w w':World} {lo hi b:Nat} {t:TypeId} {vn vm vl:Value} {N:List Nv} {M:List Mv} {L:List Ld} (h:OwnC w lo hi vn vm vl N M L) (ht:TyB w b t) (h1:t≠26) (h2:t≠38) (h3:t≠116) (h4:t≠34) (h5:t≠3) (hC:Chg (fun k=>k=b) w w'):OwnC w' lo hi vn vm vl N M L:=by
 have q:∀ {base size n:Nat} {e:TypeId} {v:Value} {xs:List Value},w.ownsRow base e size v n xs→t≠e→w'.ownsRow base e size v n xs:=fun ho hne=>hC.owns ho fun g hg e=>ht.ne ho hne (by rw [hg,e]);exact⟨q h.n h1,q h.m h2,q h.l h3,h.cn.map fun c x hp _=>⟨q (OwnN.l hp) h4,q (OwnN.v hp) h5,q (OwnN.m hp) h5,OwnN.ne hp⟩,h.cm.map fun c x hp _=>q hp h4,h.ap,h.bn,h.bm,h.bl⟩
theorem TyB.of_own {w:World} {base size n cap g:Nat} {e:TypeId} {xs:List Value} (h:w.ownsRow base e size (.slice (some ⟨g,0,none⟩) n cap) n xs):TyB w g e:=by
 rcases h.2 with⟨h,_⟩ | ⟨g',cap',cur,hv,_,hh,_⟩
 ·cases h
 ·simp only [Value.slice.injEq,Option.some.injEq,Addr.mk.injEq,and_true,true_and] at hv;obtain⟨rfl,rfl⟩:=hv;exact⟨cur,hh⟩
end Go.Proofs.Ytapfhhmimkkhnaa
namespace Go.Proofs.Ytapfhhmimkkhnaa
open Go.RowKit Go.Maps Go.Lib
set_option linter.unusedVariables false
set_option maxRecDepth 100000
theorem sl_from27 (a:Option Addr) (n cap p:Nat) (w:World) (hp:p≤n) (hn:n≤cap):(Instr.sliceAt 42 (.slice a n cap) (some (.int .i64 p)) none none).run Try.prog w= .ok (.slice (if cap=p then a else a.map (fun x=>x.add (p*9))) (n-p) (cap-p)) w:=by
 have h1:(p:Int)≤(n:Int):=by omega
 have h2:(0:Int)≤(p:Int):=by omega
 have hA:(Instr.sliceAt 42 (.slice a n cap) (some (.int .i64 p)) none none).run Try.prog w=(Instr.slice 42 (.slice a n cap) (some (.int .i64 p)) none none).run Try.prog w:=by simp [Instr.sliceAt,run_underlying Try.underlying42]
 rw [hA];simp [Instr.slice,Instr.sliceBounds,Instr.sliceBound,asIntOf,run_underlying Try.underlying42,hp,h2,Try.sizeOf38]
end Go.Proofs.Ytapfhhmimkkhnaa
namespace Go.Proofs.Ytapfhhmimkkhnaa
open Go.RowKit Go.Maps
set_option linter.unusedVariables false
set_option maxRecDepth 100000
theorem map_erase {α β:Type} (f:α→β) (l:List α) (k:Nat):(l.eraseIdx k).map f=(l.map f).eraseIdx k:=by
 rw [List.eraseIdx_eq_take_drop_succ,List.eraseIdx_eq_take_drop_succ,List.map_append,List.map_take,List.map_drop]
structure HMF (W:World) (base:Nat) (z:Nd) (A:List Ms) (x:Nv) (AB:List Mv) (qa:Option Addr) (qc:Nat):Prop where
 n:x.n=z
 p:PN W base x
 q:AB.map Mv.q=A
 b:∀a∈AB,a.ea=none∧a.ec=0∧a.q.es= []
 l:AB.length≤100
 o:W.ownsRow base 38 9 (.slice qa AB.length qc) AB.length (zu_ AB)
theorem HMF.below {W W':World} {base:Nat} {z:Nd} {A:List Ms} {x:Nv} {AB:List Mv} {qa:Option Addr} {qc:Nat} (h:HMF W base z A x AB qa qc) (hb:Below W.heap.size W W'):HMF W' base z A x AB qa qc:=⟨h.n,OwnN.below h.p hb,h.q,h.b,h.l,zd_ h.o hb⟩
theorem HMF.mono {W:World} {base b2:Nat} {z:Nd} {A:List Ms} {x:Nv} {AB:List Mv} {qa:Option Addr} {qc:Nat} (h:HMF W base z A x AB qa qc) (hb:b2≤base):HMF W b2 z A x AB qa qc:=⟨h.n,OwnN.mono h.p hb,h.q,h.b,h.l,zg_ h.o hb⟩
theorem HMF.chg {S:Nat→Prop} {W W':World} {base:Nat} {z:Nd} {A:List Ms} {x:Nv} {AB:List Mv} {qa:Option Addr} {qc:Nat} (h:HMF W base z A x AB qa qc) (hc:Chg S W W') (hs:∀b,S b→BN x b∨(Value.slice qa AB.length qc).ownBlock=some b→False):HMF W' base z A x AB qa qc:=⟨h.n,OwnN.chg h.p hc fun b h1 h2=>hs b h2 (.inl h1),h.q,h.b,h.l,hc.owns h.o fun b h1 h2=>hs b h2 (.inr h1)⟩
theorem HMF.in {W:World} {base:Nat} {z:Nd} {A:List Ms} {x:Nv} {AB:List Mv} {qa:Option Addr} {qc:Nat} (h:HMF W base z A x AB qa qc) (b:Nat) (hb:BN x b∨(Value.slice qa AB.length qc).ownBlock=some b):base≤b∧b<W.heap.size:=by
 rcases hb with hb | hb
 ·exact PN.in h.p b hb
 ·exact⟨ze_ h.o b hb,zh_ h.o b hb⟩
theorem cs_of_pg {p:Nat} {N:List Nv} {M:List Mv} {L:List Ld} (h:PG p (N.map Nv.n) (M.map Mv.q) L):CS N M L:=by
 have hn:=h.n;have hp:=h.p7;have hm:=h.m6;have hl:=h.l;rw [List.length_map] at hn hm;have hN:∀i (hi:i<N.length),Gd N[i].n:=fun i hi=>by
  have:=(h.g i (by rw [List.length_map];exact hi)).1;rw [List.getElem_map] at this;exact this
 have hM:∀i (hi:i<M.length),M[i].q.es.length≤60∧∀j (hj:j<M[i].q.es.length),M[i].q.es[j].d.size≤1048576:=fun i hi=>by
  have hgm:=h.m M[i].q (List.mem_map.2 ⟨M[i],List.getElem_mem hi,rfl⟩);obtain⟨_,_,_,_,_,_,a7⟩:=zD_ hgm;rcases kind_in a7 with q | q | q | q <;>rw [q] at a7
  ·rw [(kind_1 a7).2.1];exact⟨by simp,fun j hj=>by simp at hj⟩
  ·rw [(kind_2 a7).2.2.1];exact⟨by simp,fun j hj=>by simp at hj⟩
  ·have k:=kind_3 a7;refine⟨by have:=k.1.1;have:=k.2.1;omega,fun j hj=> ?_⟩;have:=(gE_all k.2.2.1 j hj).1;simp only [yf_,Bool.and_eq_true,decide_eq_true_eq] at this;omega
  ·rw [(kind_4 a7).2.2.1];exact⟨by simp,fun j hj=>by simp at hj⟩
 exact⟨by omega,by omega,by omega,fun i hi=>⟨(hN i hi).bnd.l,(hN i hi).bnd.v,(hN i hi).bnd.m⟩,fun i hi=>by have:=(hM i hi).1;omega,fun i hi j hj=>(hN i hi).bnd.s j hj,fun i hi j hj=>(hM i hi).2 j hj⟩
theorem stepA_any {w':World} {lo:Nat} {ok:Bool} {N2:List Nd} {M2:List Ms} {L2:List Ld} {e:Ending} (h:StepA w' lo ok N2 M2 L2 e):∃(a1:Option Addr) (n1 c1:Nat) (a2:Option Addr) (n2 c2:Nat) (a3:Option Addr) (n3 c3:Nat),e= .returned (.tuple #[.agg #[.slice a1 n1 c1,.slice a2 n2 c2,.slice a3 n3 c3],ok])∧(ok=true→∃N' M',OwnC w' lo w'.heap.size (.slice a1 n1 c1) (.slice a2 n2 c2) (.slice a3 n3 c3) N' M' L2∧N'.map Nv.n=N2∧M'.map Mv.q=M2):=by
 rcases h with⟨h1,un,um,ul,N',M',rfl,h2,h3,h4⟩ | ⟨h1,a1,n1,c1,a2,n2,c2,a3,n3,c3,rfl⟩
 ·obtain⟨⟨a1,c1,rfl⟩,⟨a2,c2,rfl⟩,a3,c3,rfl⟩:=h2.shapes;exact⟨a1,_,c1,a2,_,c2,a3,_,c3,by rw [h1],fun _=>⟨N',M',h2,h3,h4⟩⟩
 ·exact⟨a1,n1,c1,a2,n2,c2,a3,n3,c3,by rw [h1],fun q=>(by rw [h1] at q;cases q)⟩
theorem Try.info4:(Try.prog.info? 4).map (fun i=>(i.zero,i.size,i.bytes))=some (some (.bool false),1,1):=by kernel_rfl
theorem tyb_set {w:World} {b:Nat} {t:TypeId} (h:TyB w b t) (o:Nat) (v:Value):TyB (w.setCell ⟨b,o,none⟩ v) b t:=by
 obtain⟨cur,h⟩:=h;refine⟨cur.set! o v,?_⟩;simp [World.setCell,Array.getElem?_modify,h]
theorem take_snoc {α:Type} (l:List α) (k:Nat) (h:k<l.length):l.take (k+1)=l.take k++ [l[k]]:=List.take_succ_eq_append_getElem h
def PlA (w':World) (b0:Nat) (ok:Bool) (p:Nat) (l:List Sp) (e:Ending):Prop:=
 (ok=true∧∃un um ul N M du dc,e= .returned (.tuple #[.agg #[un,um,ul],.slice du l.length dc,true])∧OwnC w' b0 w'.heap.size un um ul N M (plGo (yc_ p) l).l∧N.map Nv.n=(plGo (yc_ p) l).n∧M.map Mv.q=(plGo (yc_ p) l).m∧w'.ownsRow b0 4 1 (.slice du l.length dc) l.length ((plDid (yc_ p) l).map Value.bool))∨
 (ok=false∧e= .returned (.tuple #[.agg z3,(),false]))
def plOk (p:Int) (l:List Sp):Bool:=inB p 1 7&&decide (l.length≤200)
end Go.Proofs.Ytapfhhmimkkhnaa
