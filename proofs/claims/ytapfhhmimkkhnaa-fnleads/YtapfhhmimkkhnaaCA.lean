/-
  Clusters in memory: rows of nodes, of messages and of leads.
-/
import Derived.Test.YtapfhhmimkkhnaaA4ToU1
import Derived.Test.YtapfhhmimkkhnaaF5ToRF8
import Derived.Test.YtapfhhmimkkhnaaQ3ToQD
namespace Go.Proofs.Ytapfhhmimkkhnaa
open Go.RowKit Go.Maps
set_option linter.unusedVariables false
set_option maxRecDepth 100000
structure Nv where
 n:Nd
 la:Option Addr
 lc:Nat
 va:Option Addr
 vc:Nat
 ma:Option Addr
 mc:Nat
def Nv.zero:Nv:=⟨Nd.zero,none,0,none,0,none,0⟩
structure Mv where
 q:Ms
 ea:Option Addr
 ec:Nat
def Mv.zero:Mv:=⟨Ms.zero,none,0⟩
structure Ld where
 t:Int
 n:Int
def Ld.zero:Ld:=⟨0,0⟩
def sm {α:Type} (f:α→Nat):List α→Nat
 | []=>0
 | x::r=>f x+sm f r
def zH_:List Nv→List Value
 | []=> []
 | s::r=> .int .i64 s.n.id:: .int .i64 s.n.pe:: .int .i64 s.n.te:: .int .i64 s.n.vo:: .slice s.la s.n.log.length s.lc:: .int .i64 s.n.co:: .int .i64 s.n.ro:: .slice s.va s.n.vs.length s.vc:: .slice s.ma s.n.mt.length s.mc::zH_ r
theorem flatN_append (l m:List Nv):zH_ (l++m)=zH_ l++zH_ m:=by
 induction l with
 | nil=>rfl
 | cons x r ih=>simp only [List.cons_append,zH_,ih]
theorem flatN_get (l:List Nv) (i:Nat) (h:i<l.length):(zH_ l)[i*9]? =some (.int .i64 l[i].n.id)∧(zH_ l)[i*9+1]? =some (.int .i64 l[i].n.pe)∧(zH_ l)[i*9+2]? =some (.int .i64 l[i].n.te)∧(zH_ l)[i*9+3]? =some (.int .i64 l[i].n.vo)∧(zH_ l)[i*9+4]? =some (.slice l[i].la l[i].n.log.length l[i].lc)∧(zH_ l)[i*9+5]? =some (.int .i64 l[i].n.co)∧(zH_ l)[i*9+6]? =some (.int .i64 l[i].n.ro)∧(zH_ l)[i*9+7]? =some (.slice l[i].va l[i].n.vs.length l[i].vc)∧(zH_ l)[i*9+8]? =some (.slice l[i].ma l[i].n.mt.length l[i].mc):=by
 induction l generalizing i with
 | nil=>simp at h
 | cons x r ih=>
  cases i with
  | zero=>exact⟨rfl,rfl,rfl,rfl,rfl,rfl,rfl,rfl,rfl⟩
  | succ i=>
   have:=ih i (by simpa using h);simp only [zH_,List.getElem_cons_succ];have e:∀(m:Nat) (q0 q1 q2 q3 q4 q5 q6 q7 q8:Value) (L:List Value),(q0::q1::q2::q3::q4::q5::q6::q7::q8::L)[(i+1)*9+m]? =L[i*9+m]? :=by
    intro m q0 q1 q2 q3 q4 q5 q6 q7 q8 L;rw [show (i+1)*9+m=(i*9+m)+1+1+1+1+1+1+1+1+1 from by omega];simp only [List.getElem?_cons_succ]
   have e0:=e 0;simp only [Nat.add_zero] at e0;rw [e0,e 1,e 2,e 3,e 4,e 5,e 6,e 7,e 8];exact this
theorem flatN_set (l:List Nv) (i:Nat) (s:Nv):(((((((((zH_ l).set (i*9) (.int .i64 s.n.id)).set (i*9+1) (.int .i64 s.n.pe)).set (i*9+2) (.int .i64 s.n.te)).set (i*9+3) (.int .i64 s.n.vo)).set (i*9+4) (.slice s.la s.n.log.length s.lc)).set (i*9+5) (.int .i64 s.n.co)).set (i*9+6) (.int .i64 s.n.ro)).set (i*9+7) (.slice s.va s.n.vs.length s.vc)).set (i*9+8) (.slice s.ma s.n.mt.length s.mc)=zH_ (l.set i s):=by
 induction l generalizing i with
 | nil=>simp [zH_]
 | cons x r ih=>
  cases i with
  | zero=>simp [zH_]
  | succ i=>
   have e:∀(m:Nat) (v q0 q1 q2 q3 q4 q5 q6 q7 q8:Value) (L:List Value),(q0::q1::q2::q3::q4::q5::q6::q7::q8::L).set ((i+1)*9+m) v=q0::q1::q2::q3::q4::q5::q6::q7::q8::L.set (i*9+m) v:=by
    intro m v q0 q1 q2 q3 q4 q5 q6 q7 q8 L;rw [show (i+1)*9+m=(i*9+m)+1+1+1+1+1+1+1+1+1 from by omega];simp only [sC_]
   have e0:=e 0;simp only [Nat.add_zero] at e0;simp only [zH_,sC_];rw [e0,e 1,e 2,e 3,e 4,e 5,e 6,e 7,e 8,ih i]
def NW (w:World) (v:Value) (l:List Nv):Prop:=
 ∃a cap,v= .slice a l.length cap∧(l≠ []→∃b off,a=some ⟨b,off,none⟩∧b<w.heap.size∧
  ∀i (h:i<l.length),w.cell? ⟨b,off+i*9,none⟩=some (.int .i64 l[i].n.id)∧w.cell? ⟨b,off+i*9+1,none⟩=some (.int .i64 l[i].n.pe)∧w.cell? ⟨b,off+i*9+2,none⟩=some (.int .i64 l[i].n.te)∧w.cell? ⟨b,off+i*9+3,none⟩=some (.int .i64 l[i].n.vo)∧w.cell? ⟨b,off+i*9+4,none⟩=some (.slice l[i].la l[i].n.log.length l[i].lc)∧w.cell? ⟨b,off+i*9+5,none⟩=some (.int .i64 l[i].n.co)∧w.cell? ⟨b,off+i*9+6,none⟩=some (.int .i64 l[i].n.ro)∧w.cell? ⟨b,off+i*9+7,none⟩=some (.slice l[i].va l[i].n.vs.length l[i].vc)∧w.cell? ⟨b,off+i*9+8,none⟩=some (.slice l[i].ma l[i].n.mt.length l[i].mc))
theorem NW.below {w w':World} {v:Value} {l:List Nv} (h:NW w v l) (hb:Below w.heap.size w w'):NW w' v l:=by
 obtain⟨a,cap,hv,hc⟩:=h;refine⟨a,cap,hv,fun hl=> ?_⟩;obtain⟨b,off,ha,hbl,hcell⟩:=hc hl;refine⟨b,off,ha,Nat.lt_of_lt_of_le hbl hb.size,fun i hi=> ?_⟩;obtain⟨c0,c1,c2,c3,c4,c5,c6,c7,c8⟩:=hcell i hi;exact⟨(hb.cell (p:=⟨b,off+i*9,none⟩) hbl).trans c0,(hb.cell (p:=⟨b,off+i*9+1,none⟩) hbl).trans c1,(hb.cell (p:=⟨b,off+i*9+2,none⟩) hbl).trans c2,(hb.cell (p:=⟨b,off+i*9+3,none⟩) hbl).trans c3,(hb.cell (p:=⟨b,off+i*9+4,none⟩) hbl).trans c4,(hb.cell (p:=⟨b,off+i*9+5,none⟩) hbl).trans c5,(hb.cell (p:=⟨b,off+i*9+6,none⟩) hbl).trans c6,(hb.cell (p:=⟨b,off+i*9+7,none⟩) hbl).trans c7,(hb.cell (p:=⟨b,off+i*9+8,none⟩) hbl).trans c8⟩
theorem NW_of_owns {w:World} {base n:Nat} {e:TypeId} {v:Value} {l:List Nv} (h:w.ownsRow base e 9 v n (zH_ l)) (hn:n=l.length):NW w v l:=by
 subst hn;have h':=h;obtain⟨hl,h⟩:=h;rcases h with⟨rfl,h0⟩ | ⟨g,cap,cur,rfl,hbg,hh,hcap,hm,hsz,htk⟩
 ·exact⟨none,0,by rw [h0],fun hne=>absurd (List.length_eq_zero_iff.1 h0) hne⟩
 ·refine⟨_,cap,rfl,fun _=>⟨g,0,rfl,(Array.getElem?_eq_some_iff.1 hh).1,fun i hi=> ?_⟩⟩;obtain⟨g0,g1,g2,g3,g4,g5,g6,g7,g8⟩:=flatN_get l i hi;rw [Nat.zero_add];exact⟨by rw [h'.cellAt (i*9) (by omega),g0],by rw [h'.cellAt (i*9+1) (by omega),g1],by rw [h'.cellAt (i*9+2) (by omega),g2],by rw [h'.cellAt (i*9+3) (by omega),g3],by rw [h'.cellAt (i*9+4) (by omega),g4],by rw [h'.cellAt (i*9+5) (by omega),g5],by rw [h'.cellAt (i*9+6) (by omega),g6],by rw [h'.cellAt (i*9+7) (by omega),g7],by rw [h'.cellAt (i*9+8) (by omega),g8]⟩
def zu_:List Mv→List Value
 | []=> []
 | s::r=> .int .i64 s.q.ki:: .int .i64 s.q.fr:: .int .i64 s.q.dst:: .int .i64 s.q.te:: .int .i64 s.q.ix:: .int .i64 s.q.be:: .slice s.ea s.q.es.length s.ec:: .int .i64 s.q.co:: .bool s.q.ye::zu_ r
theorem flatM_length (l:List Mv):(zu_ l).length=l.length*9:=by
 induction l with
 | nil=>rfl
 | cons x r ih=>simp only [zu_,List.length_cons,ih];omega
theorem flatM_append (l m:List Mv):zu_ (l++m)=zu_ l++zu_ m:=by
 induction l with
 | nil=>rfl
 | cons x r ih=>simp only [List.cons_append,zu_,ih]
theorem flatM_get (l:List Mv) (i:Nat) (h:i<l.length):(zu_ l)[i*9]? =some (.int .i64 l[i].q.ki)∧(zu_ l)[i*9+1]? =some (.int .i64 l[i].q.fr)∧(zu_ l)[i*9+2]? =some (.int .i64 l[i].q.dst)∧(zu_ l)[i*9+3]? =some (.int .i64 l[i].q.te)∧(zu_ l)[i*9+4]? =some (.int .i64 l[i].q.ix)∧(zu_ l)[i*9+5]? =some (.int .i64 l[i].q.be)∧(zu_ l)[i*9+6]? =some (.slice l[i].ea l[i].q.es.length l[i].ec)∧(zu_ l)[i*9+7]? =some (.int .i64 l[i].q.co)∧(zu_ l)[i*9+8]? =some (.bool l[i].q.ye):=by
 induction l generalizing i with
 | nil=>simp at h
 | cons x r ih=>
  cases i with
  | zero=>exact⟨rfl,rfl,rfl,rfl,rfl,rfl,rfl,rfl,rfl⟩
  | succ i=>
   have:=ih i (by simpa using h);simp only [zu_,List.getElem_cons_succ];have e:∀(m:Nat) (q0 q1 q2 q3 q4 q5 q6 q7 q8:Value) (L:List Value),(q0::q1::q2::q3::q4::q5::q6::q7::q8::L)[(i+1)*9+m]? =L[i*9+m]? :=by
    intro m q0 q1 q2 q3 q4 q5 q6 q7 q8 L;rw [show (i+1)*9+m=(i*9+m)+1+1+1+1+1+1+1+1+1 from by omega];simp only [List.getElem?_cons_succ]
   have e0:=e 0;simp only [Nat.add_zero] at e0;rw [e0,e 1,e 2,e 3,e 4,e 5,e 6,e 7,e 8];exact this
def MW (w:World) (v:Value) (l:List Mv):Prop:=
 ∃a cap,v= .slice a l.length cap∧(l≠ []→∃b off,a=some ⟨b,off,none⟩∧b<w.heap.size∧
  ∀i (h:i<l.length),w.cell? ⟨b,off+i*9,none⟩=some (.int .i64 l[i].q.ki)∧w.cell? ⟨b,off+i*9+1,none⟩=some (.int .i64 l[i].q.fr)∧w.cell? ⟨b,off+i*9+2,none⟩=some (.int .i64 l[i].q.dst)∧w.cell? ⟨b,off+i*9+3,none⟩=some (.int .i64 l[i].q.te)∧w.cell? ⟨b,off+i*9+4,none⟩=some (.int .i64 l[i].q.ix)∧w.cell? ⟨b,off+i*9+5,none⟩=some (.int .i64 l[i].q.be)∧w.cell? ⟨b,off+i*9+6,none⟩=some (.slice l[i].ea l[i].q.es.length l[i].ec)∧w.cell? ⟨b,off+i*9+7,none⟩=some (.int .i64 l[i].q.co)∧w.cell? ⟨b,off+i*9+8,none⟩=some (.bool l[i].q.ye))
theorem MW.below {w w':World} {v:Value} {l:List Mv} (h:MW w v l) (hb:Below w.heap.size w w'):MW w' v l:=by
 obtain⟨a,cap,hv,hc⟩:=h;refine⟨a,cap,hv,fun hl=> ?_⟩;obtain⟨b,off,ha,hbl,hcell⟩:=hc hl;refine⟨b,off,ha,Nat.lt_of_lt_of_le hbl hb.size,fun i hi=> ?_⟩;obtain⟨c0,c1,c2,c3,c4,c5,c6,c7,c8⟩:=hcell i hi;exact⟨(hb.cell (p:=⟨b,off+i*9,none⟩) hbl).trans c0,(hb.cell (p:=⟨b,off+i*9+1,none⟩) hbl).trans c1,(hb.cell (p:=⟨b,off+i*9+2,none⟩) hbl).trans c2,(hb.cell (p:=⟨b,off+i*9+3,none⟩) hbl).trans c3,(hb.cell (p:=⟨b,off+i*9+4,none⟩) hbl).trans c4,(hb.cell (p:=⟨b,off+i*9+5,none⟩) hbl).trans c5,(hb.cell (p:=⟨b,off+i*9+6,none⟩) hbl).trans c6,(hb.cell (p:=⟨b,off+i*9+7,none⟩) hbl).trans c7,(hb.cell (p:=⟨b,off+i*9+8,none⟩) hbl).trans c8⟩
theorem MW_of_owns {w:World} {base n:Nat} {e:TypeId} {v:Value} {l:List Mv} (h:w.ownsRow base e 9 v n (zu_ l)) (hn:n=l.length):MW w v l:=by
 subst hn;have h':=h;obtain⟨hl,h⟩:=h;rcases h with⟨rfl,h0⟩ | ⟨g,cap,cur,rfl,hbg,hh,hcap,hm,hsz,htk⟩
 ·exact⟨none,0,by rw [h0],fun hne=>absurd (List.length_eq_zero_iff.1 h0) hne⟩
 ·refine⟨_,cap,rfl,fun _=>⟨g,0,rfl,(Array.getElem?_eq_some_iff.1 hh).1,fun i hi=> ?_⟩⟩;obtain⟨g0,g1,g2,g3,g4,g5,g6,g7,g8⟩:=flatM_get l i hi;rw [Nat.zero_add];exact⟨by rw [h'.cellAt (i*9) (by omega),g0],by rw [h'.cellAt (i*9+1) (by omega),g1],by rw [h'.cellAt (i*9+2) (by omega),g2],by rw [h'.cellAt (i*9+3) (by omega),g3],by rw [h'.cellAt (i*9+4) (by omega),g4],by rw [h'.cellAt (i*9+5) (by omega),g5],by rw [h'.cellAt (i*9+6) (by omega),g6],by rw [h'.cellAt (i*9+7) (by omega),g7],by rw [h'.cellAt (i*9+8) (by omega),g8]⟩
def flatL:List Ld→List Value
 | []=> []
 | s::r=> .int .i64 s.t:: .int .i64 s.n::flatL r
theorem flatL_append (l m:List Ld):flatL (l++m)=flatL l++flatL m:=by
 induction l with
 | nil=>rfl
 | cons x r ih=>simp only [List.cons_append,flatL,ih]
theorem flatL_get (l:List Ld) (i:Nat) (h:i<l.length):(flatL l)[i*2]? =some (.int .i64 l[i].t)∧(flatL l)[i*2+1]? =some (.int .i64 l[i].n):=by
 induction l generalizing i with
 | nil=>simp at h
 | cons x r ih=>
  cases i with
  | zero=>exact⟨rfl,rfl⟩
  | succ i=>
   have:=ih i (by simpa using h);simp only [flatL,List.getElem_cons_succ];have e:∀(m:Nat) (q0 q1:Value) (L:List Value),(q0::q1::L)[(i+1)*2+m]? =L[i*2+m]? :=by
    intro m q0 q1 L;rw [show (i+1)*2+m=(i*2+m)+1+1 from by omega];simp only [List.getElem?_cons_succ]
   have e0:=e 0;simp only [Nat.add_zero] at e0;rw [e0,e 1];exact this
def LW (w:World) (v:Value) (l:List Ld):Prop:=
 ∃a cap,v= .slice a l.length cap∧(l≠ []→∃b off,a=some ⟨b,off,none⟩∧b<w.heap.size∧
  ∀i (h:i<l.length),w.cell? ⟨b,off+i*2,none⟩=some (.int .i64 l[i].t)∧w.cell? ⟨b,off+i*2+1,none⟩=some (.int .i64 l[i].n))
theorem LW.below {w w':World} {v:Value} {l:List Ld} (h:LW w v l) (hb:Below w.heap.size w w'):LW w' v l:=by
 obtain⟨a,cap,hv,hc⟩:=h;refine⟨a,cap,hv,fun hl=> ?_⟩;obtain⟨b,off,ha,hbl,hcell⟩:=hc hl;refine⟨b,off,ha,Nat.lt_of_lt_of_le hbl hb.size,fun i hi=> ?_⟩;obtain⟨c0,c1⟩:=hcell i hi;exact⟨(hb.cell (p:=⟨b,off+i*2,none⟩) hbl).trans c0,(hb.cell (p:=⟨b,off+i*2+1,none⟩) hbl).trans c1⟩
theorem LW_of_owns {w:World} {base n:Nat} {e:TypeId} {v:Value} {l:List Ld} (h:w.ownsRow base e 2 v n (flatL l)) (hn:n=l.length):LW w v l:=by
 subst hn;have h':=h;obtain⟨hl,h⟩:=h;rcases h with⟨rfl,h0⟩ | ⟨g,cap,cur,rfl,hbg,hh,hcap,hm,hsz,htk⟩
 ·exact⟨none,0,by rw [h0],fun hne=>absurd (List.length_eq_zero_iff.1 h0) hne⟩
 ·refine⟨_,cap,rfl,fun _=>⟨g,0,rfl,(Array.getElem?_eq_some_iff.1 hh).1,fun i hi=> ?_⟩⟩;obtain⟨g0,g1⟩:=flatL_get l i hi;rw [Nat.zero_add];exact⟨by rw [h'.cellAt (i*2) (by omega),g0],by rw [h'.cellAt (i*2+1) (by omega),g1]⟩
def NE (w:World) (x:Nv):Prop:=ER w (.slice x.la x.n.log.length x.lc) x.n.log∧IL w (.slice x.va x.n.vs.length x.vc) x.n.vs∧IL w (.slice x.ma x.n.mt.length x.mc) x.n.mt
def ME (w:World) (x:Mv):Prop:=ER w (.slice x.ea x.q.es.length x.ec) x.q.es
theorem NE.below {w w':World} {x:Nv} (h:NE w x) (hb:Below w.heap.size w w'):NE w' x:=⟨h.1.below hb,h.2.1.below hb,h.2.2.below hb⟩
theorem ME.below {w w':World} {x:Mv} (h:ME w x) (hb:Below w.heap.size w w'):ME w' x:=ER.below h hb
structure CR (w:World) (vn vm vl:Value) (N:List Nv) (M:List Mv) (L:List Ld):Prop where
 n:NW w vn N
 m:MW w vm M
 l:LW w vl L
 ne:∀i (h:i<N.length),NE w N[i]
 me:∀i (h:i<M.length),ME w M[i]
theorem CR.below {w w':World} {vn vm vl:Value} {N:List Nv} {M:List Mv} {L:List Ld} (h:CR w vn vm vl N M L) (hb:Below w.heap.size w w'):CR w' vn vm vl N M L:=
 ⟨h.n.below hb,h.m.below hb,h.l.below hb,fun i hi=>(h.ne i hi).below hb,fun i hi=>(h.me i hi).below hb⟩
theorem CR.shapes {w:World} {vn vm vl:Value} {N:List Nv} {M:List Mv} {L:List Ld} (h:CR w vn vm vl N M L):(∃a c,vn= .slice a N.length c)∧(∃a c,vm= .slice a M.length c)∧∃a c,vl= .slice a L.length c:=by
 obtain⟨a,c,e,_⟩:=h.n;obtain⟨a',c',e',_⟩:=h.m;obtain⟨a2,c2,e2,_⟩:=h.l;exact⟨⟨a,c,e⟩,⟨a',c',e'⟩,a2,c2,e2⟩
theorem Box.c3 {w:World} {b:Nat} {v0 v1 v2:Value} (h:Box w b [v0,v1,v2]):b<w.heap.size∧w.cell? ⟨b,0,none⟩=some v0∧w.cell? ⟨b,1,none⟩=some v1∧w.cell? ⟨b,2,none⟩=some v2:=⟨h.1,h.2.1 0 _ rfl,h.2.1 1 _ rfl,h.2.1 2 _ rfl⟩
theorem Box.f3 {w:World} {b:Nat} {v0 v1 v2:Value} (h:Box w b [v0,v1,v2]):w.frozen? ⟨b,0,none⟩=false∧w.frozen? ⟨b,1,none⟩=false∧w.frozen? ⟨b,2,none⟩=false:=⟨h.2.2 0,h.2.2 1,h.2.2 2⟩
instance : Coe Nv (List Value) := ⟨fun x => [.int .i64 x.n.id, .int .i64 x.n.pe, .int .i64 x.n.te, .int .i64 x.n.vo, .slice x.la x.n.log.length x.lc, .int .i64 x.n.co, .int .i64 x.n.ro, .slice x.va x.n.vs.length x.vc, .slice x.ma x.n.mt.length x.mc]⟩
instance : Coe Nv (Array Value) := ⟨fun x => #[.int .i64 x.n.id, .int .i64 x.n.pe, .int .i64 x.n.te, .int .i64 x.n.vo, .slice x.la x.n.log.length x.lc, .int .i64 x.n.co, .int .i64 x.n.ro, .slice x.va x.n.vs.length x.vc, .slice x.ma x.n.mt.length x.mc]⟩
instance : Coe Mv (List Value) := ⟨fun x => [.int .i64 x.q.ki, .int .i64 x.q.fr, .int .i64 x.q.dst, .int .i64 x.q.te, .int .i64 x.q.ix, .int .i64 x.q.be, .slice x.ea x.q.es.length x.ec, .int .i64 x.q.co, .bool x.q.ye]⟩
instance : Coe Mv (Array Value) := ⟨fun x => #[.int .i64 x.q.ki, .int .i64 x.q.fr, .int .i64 x.q.dst, .int .i64 x.q.te, .int .i64 x.q.ix, .int .i64 x.q.be, .slice x.ea x.q.es.length x.ec, .int .i64 x.q.co, .bool x.q.ye]⟩
end Go.Proofs.Ytapfhhmimkkhnaa
