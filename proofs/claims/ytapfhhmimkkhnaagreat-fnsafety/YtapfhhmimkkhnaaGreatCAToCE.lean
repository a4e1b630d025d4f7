/-
  Clusters in memory: rows of nodes, of messages and of leads.
  Agreement, plainly: a cluster that fits, and the four promises of it.
  Agreement, plainly: a cluster that fits goes on to fit when one of its nodes does something.
  How great a cluster is: szRaftNodeS, szRaftMsgS, szLeadS, szCluster.
  A cluster made of the law's own: toRaftNodeS, toRaftMsgS, toLeadS, toCluster.
  A cluster made of the law's own: toRaftNodeS.
  A cluster made of the law's own: toRaftMsgS.
  Clusters that are the same: eqRaftNodeS, eqRaftMsgS, eqLeadS, eqCluster.
  A cluster made of the law's own: toCluster.
-/
import Derived.Test.YtapfhhmimkkhnaaGreatQ3ToQD
namespace Go.Proofs.YtapfhhmimkkhnaaGreat
open Go.RowKit Go.Maps
set_option linter.unusedVariables false
set_option maxRecDepth 100000
structure Nv where
 n:Nd
 la:Option Addr
 lc:Nat
 va:Option Addr
 vc:Nat
 ma:Option Addr
 mc:Nat
def Nv.zero:Nv:=⟨Nd.zero,none,0,none,0,none,0⟩
structure Mv where
 q:Ms
 ea:Option Addr
 ec:Nat
def Mv.zero:Mv:=⟨Ms.zero,none,0⟩
structure Ld where
 t:Int
 n:Int
def Ld.zero:Ld:=⟨0,0⟩
def sm {α:Type} (f:α→Nat):List α→Nat
 | []=>0
 | x::r=>f x+sm f r
def zI_:List Nv→List Value
 | []=> []
 | s::r=> .int .i64 s.n.id:: .int .i64 s.n.pe:: .int .i64 s.n.te:: .int .i64 s.n.vo:: .slice s.la s.n.log.length s.lc:: .int .i64 s.n.co:: .int .i64 s.n.ro:: .slice s.va s.n.vs.length s.vc:: .slice s.ma s.n.mt.length s.mc::zI_ r
theorem vI_ (l m:List Nv):zI_ (l++m)=zI_ l++zI_ m:=by
 induction l with
 | nil=>rfl
 | cons x r ih=>simp only [List.cons_append,zI_,ih]
theorem tT_ (l:List Nv) (i:Nat) (h:i<l.length):(zI_ l)[i*9]? =some (.int .i64 l[i].n.id)∧(zI_ l)[i*9+1]? =some (.int .i64 l[i].n.pe)∧(zI_ l)[i*9+2]? =some (.int .i64 l[i].n.te)∧(zI_ l)[i*9+3]? =some (.int .i64 l[i].n.vo)∧(zI_ l)[i*9+4]? =some (.slice l[i].la l[i].n.log.length l[i].lc)∧(zI_ l)[i*9+5]? =some (.int .i64 l[i].n.co)∧(zI_ l)[i*9+6]? =some (.int .i64 l[i].n.ro)∧(zI_ l)[i*9+7]? =some (.slice l[i].va l[i].n.vs.length l[i].vc)∧(zI_ l)[i*9+8]? =some (.slice l[i].ma l[i].n.mt.length l[i].mc):=by
 induction l generalizing i with
 | nil=>simp at h
 | cons x r ih=>
  cases i with
  | zero=>exact⟨rfl,rfl,rfl,rfl,rfl,rfl,rfl,rfl,rfl⟩
  | succ i=>
   have:=ih i (by simpa using h);simp only [zI_,List.getElem_cons_succ];have e:∀(m:Nat) (q0 q1 q2 q3 q4 q5 q6 q7 q8:Value) (L:List Value),(q0::q1::q2::q3::q4::q5::q6::q7::q8::L)[(i+1)*9+m]? =L[i*9+m]? :=by
    intro m q0 q1 q2 q3 q4 q5 q6 q7 q8 L;rw [show (i+1)*9+m=(i*9+m)+1+1+1+1+1+1+1+1+1 from by omega];simp only [List.getElem?_cons_succ]
   have e0:=e 0;simp only [Nat.add_zero] at e0;rw [e0,e 1,e 2,e 3,e 4,e 5,e 6,e 7,e 8];exact this
theorem ps_ (l:List Nv) (i:Nat) (s:Nv):(((((((((zI_ l).set (i*9) (.int .i64 s.n.id)).set (i*9+1) (.int .i64 s.n.pe)).set (i*9+2) (.int .i64 s.n.te)).set (i*9+3) (.int .i64 s.n.vo)).set (i*9+4) (.slice s.la s.n.log.length s.lc)).set (i*9+5) (.int .i64 s.n.co)).set (i*9+6) (.int .i64 s.n.ro)).set (i*9+7) (.slice s.va s.n.vs.length s.vc)).set (i*9+8) (.slice s.ma s.n.mt.length s.mc)=zI_ (l.set i s):=by
 induction l generalizing i with
 | nil=>simp [zI_]
 | cons x r ih=>
  cases i with
  | zero=>simp [zI_]
  | succ i=>
   have e:∀(m:Nat) (v q0 q1 q2 q3 q4 q5 q6 q7 q8:Value) (L:List Value),(q0::q1::q2::q3::q4::q5::q6::q7::q8::L).set ((i+1)*9+m) v=q0::q1::q2::q3::q4::q5::q6::q7::q8::L.set (i*9+m) v:=by
    intro m v q0 q1 q2 q3 q4 q5 q6 q7 q8 L;rw [show (i+1)*9+m=(i*9+m)+1+1+1+1+1+1+1+1+1 from by omega];simp only [sC_]
   have e0:=e 0;simp only [Nat.add_zero] at e0;simp only [zI_,sC_];rw [e0,e 1,e 2,e 3,e 4,e 5,e 6,e 7,e 8,ih i]
def NW (w:World) (v:Value) (l:List Nv):Prop:=
 ∃a cap,v= .slice a l.length cap∧(l≠ []→∃b off,a=some ⟨b,off,none⟩∧b<w.heap.size∧
  ∀i (h:i<l.length),w.cell? ⟨b,off+i*9,none⟩=some (.int .i64 l[i].n.id)∧w.cell? ⟨b,off+i*9+1,none⟩=some (.int .i64 l[i].n.pe)∧w.cell? ⟨b,off+i*9+2,none⟩=some (.int .i64 l[i].n.te)∧w.cell? ⟨b,off+i*9+3,none⟩=some (.int .i64 l[i].n.vo)∧w.cell? ⟨b,off+i*9+4,none⟩=some (.slice l[i].la l[i].n.log.length l[i].lc)∧w.cell? ⟨b,off+i*9+5,none⟩=some (.int .i64 l[i].n.co)∧w.cell? ⟨b,off+i*9+6,none⟩=some (.int .i64 l[i].n.ro)∧w.cell? ⟨b,off+i*9+7,none⟩=some (.slice l[i].va l[i].n.vs.length l[i].vc)∧w.cell? ⟨b,off+i*9+8,none⟩=some (.slice l[i].ma l[i].n.mt.length l[i].mc))
theorem NW.below {w w':World} {v:Value} {l:List Nv} (h:NW w v l) (hb:Below w.heap.size w w'):NW w' v l:=by
 obtain⟨a,cap,hv,hc⟩:=h;refine⟨a,cap,hv,fun hl=> ?_⟩;obtain⟨b,off,ha,hbl,hcell⟩:=hc hl;refine⟨b,off,ha,Nat.lt_of_lt_of_le hbl hb.size,fun i hi=> ?_⟩;obtain⟨c0,c1,c2,c3,c4,c5,c6,c7,c8⟩:=hcell i hi;exact⟨(hb.cell (p:=⟨b,off+i*9,none⟩) hbl).trans c0,(hb.cell (p:=⟨b,off+i*9+1,none⟩) hbl).trans c1,(hb.cell (p:=⟨b,off+i*9+2,none⟩) hbl).trans c2,(hb.cell (p:=⟨b,off+i*9+3,none⟩) hbl).trans c3,(hb.cell (p:=⟨b,off+i*9+4,none⟩) hbl).trans c4,(hb.cell (p:=⟨b,off+i*9+5,none⟩) hbl).trans c5,(hb.cell (p:=⟨b,off+i*9+6,none⟩) hbl).trans c6,(hb.cell (p:=⟨b,off+i*9+7,none⟩) hbl).trans c7,(hb.cell (p:=⟨b,off+i*9+8,none⟩) hbl).trans c8⟩
theorem qw_ {w:World} {base n:Nat} {e:TypeId} {v:Value} {l:List Nv} (h:w.ownsRow base e 9 v n (zI_ l)) (hn:n=l.length):NW w v l:=by
 subst hn;have h':=h;obtain⟨hl,h⟩:=h;rcases h with⟨rfl,h0⟩ | ⟨g,cap,cur,rfl,hbg,hh,hcap,hm,hsz,htk⟩
 ·exact⟨none,0,by rw [h0],fun hne=>absurd (List.length_eq_zero_iff.1 h0) hne⟩
 ·refine⟨_,cap,rfl,fun _=>⟨g,0,rfl,(Array.getElem?_eq_some_iff.1 hh).1,fun i hi=> ?_⟩⟩;obtain⟨g0,g1,g2,g3,g4,g5,g6,g7,g8⟩:=tT_ l i hi;rw [Nat.zero_add];exact⟨by rw [h'.cellAt (i*9) (by omega),g0],by rw [h'.cellAt (i*9+1) (by omega),g1],by rw [h'.cellAt (i*9+2) (by omega),g2],by rw [h'.cellAt (i*9+3) (by omega),g3],by rw [h'.cellAt (i*9+4) (by omega),g4],by rw [h'.cellAt (i*9+5) (by omega),g5],by rw [h'.cellAt (i*9+6) (by omega),g6],by rw [h'.cellAt (i*9+7) (by omega),g7],by rw [h'.cellAt (i*9+8) (by omega),g8]⟩
def zo_:List Mv→List Value
 | []=> []
 | s::r=> .int .i64 s.q.ki:: .int .i64 s.q.fr:: .int .i64 s.q.dst:: .int .i64 s.q.te:: .int .i64 s.q.ix:: .int .i64 s.q.be:: .slice s.ea s.q.es.length s.ec:: .int .i64 s.q.co:: .bool s.q.ye::zo_ r
theorem yI_ (l:List Mv):(zo_ l).length=l.length*9:=by
 induction l with
 | nil=>rfl
 | cons x r ih=>simp only [zo_,List.length_cons,ih];omega
theorem yJ_ (l m:List Mv):zo_ (l++m)=zo_ l++zo_ m:=by
 induction l with
 | nil=>rfl
 | cons x r ih=>simp only [List.cons_append,zo_,ih]
theorem tU_ (l:List Mv) (i:Nat) (h:i<l.length):(zo_ l)[i*9]? =some (.int .i64 l[i].q.ki)∧(zo_ l)[i*9+1]? =some (.int .i64 l[i].q.fr)∧(zo_ l)[i*9+2]? =some (.int .i64 l[i].q.dst)∧(zo_ l)[i*9+3]? =some (.int .i64 l[i].q.te)∧(zo_ l)[i*9+4]? =some (.int .i64 l[i].q.ix)∧(zo_ l)[i*9+5]? =some (.int .i64 l[i].q.be)∧(zo_ l)[i*9+6]? =some (.slice l[i].ea l[i].q.es.length l[i].ec)∧(zo_ l)[i*9+7]? =some (.int .i64 l[i].q.co)∧(zo_ l)[i*9+8]? =some (.bool l[i].q.ye):=by
 induction l generalizing i with
 | nil=>simp at h
 | cons x r ih=>
  cases i with
  | zero=>exact⟨rfl,rfl,rfl,rfl,rfl,rfl,rfl,rfl,rfl⟩
  | succ i=>
   have:=ih i (by simpa using h);simp only [zo_,List.getElem_cons_succ];have e:∀(m:Nat) (q0 q1 q2 q3 q4 q5 q6 q7 q8:Value) (L:List Value),(q0::q1::q2::q3::q4::q5::q6::q7::q8::L)[(i+1)*9+m]? =L[i*9+m]? :=by
    intro m q0 q1 q2 q3 q4 q5 q6 q7 q8 L;rw [show (i+1)*9+m=(i*9+m)+1+1+1+1+1+1+1+1+1 from by omega];simp only [List.getElem?_cons_succ]
   have e0:=e 0;simp only [Nat.add_zero] at e0;rw [e0,e 1,e 2,e 3,e 4,e 5,e 6,e 7,e 8];exact this
theorem pt_ (l:List Mv) (i:Nat) (s:Mv):(((((((((zo_ l).set (i*9) (.int .i64 s.q.ki)).set (i*9+1) (.int .i64 s.q.fr)).set (i*9+2) (.int .i64 s.q.dst)).set (i*9+3) (.int .i64 s.q.te)).set (i*9+4) (.int .i64 s.q.ix)).set (i*9+5) (.int .i64 s.q.be)).set (i*9+6) (.slice s.ea s.q.es.length s.ec)).set (i*9+7) (.int .i64 s.q.co)).set (i*9+8) (.bool s.q.ye)=zo_ (l.set i s):=by
 induction l generalizing i with
 | nil=>simp [zo_]
 | cons x r ih=>
  cases i with
  | zero=>simp [zo_]
  | succ i=>
   have e:∀(m:Nat) (v q0 q1 q2 q3 q4 q5 q6 q7 q8:Value) (L:List Value),(q0::q1::q2::q3::q4::q5::q6::q7::q8::L).set ((i+1)*9+m) v=q0::q1::q2::q3::q4::q5::q6::q7::q8::L.set (i*9+m) v:=by
    intro m v q0 q1 q2 q3 q4 q5 q6 q7 q8 L;rw [show (i+1)*9+m=(i*9+m)+1+1+1+1+1+1+1+1+1 from by omega];simp only [sC_]
   have e0:=e 0;simp only [Nat.add_zero] at e0;simp only [zo_,sC_];rw [e0,e 1,e 2,e 3,e 4,e 5,e 6,e 7,e 8,ih i]
def MW (w:World) (v:Value) (l:List Mv):Prop:=
 ∃a cap,v= .slice a l.length cap∧(l≠ []→∃b off,a=some ⟨b,off,none⟩∧b<w.heap.size∧
  ∀i (h:i<l.length),w.cell? ⟨b,off+i*9,none⟩=some (.int .i64 l[i].q.ki)∧w.cell? ⟨b,off+i*9+1,none⟩=some (.int .i64 l[i].q.fr)∧w.cell? ⟨b,off+i*9+2,none⟩=some (.int .i64 l[i].q.dst)∧w.cell? ⟨b,off+i*9+3,none⟩=some (.int .i64 l[i].q.te)∧w.cell? ⟨b,off+i*9+4,none⟩=some (.int .i64 l[i].q.ix)∧w.cell? ⟨b,off+i*9+5,none⟩=some (.int .i64 l[i].q.be)∧w.cell? ⟨b,off+i*9+6,none⟩=some (.slice l[i].ea l[i].q.es.length l[i].ec)∧w.cell? ⟨b,off+i*9+7,none⟩=some (.int .i64 l[i].q.co)∧w.cell? ⟨b,off+i*9+8,none⟩=some (.bool l[i].q.ye))
theorem MW.below {w w':World} {v:Value} {l:List Mv} (h:MW w v l) (hb:Below w.heap.size w w'):MW w' v l:=by
 obtain⟨a,cap,hv,hc⟩:=h;refine⟨a,cap,hv,fun hl=> ?_⟩;obtain⟨b,off,ha,hbl,hcell⟩:=hc hl;refine⟨b,off,ha,Nat.lt_of_lt_of_le hbl hb.size,fun i hi=> ?_⟩;obtain⟨c0,c1,c2,c3,c4,c5,c6,c7,c8⟩:=hcell i hi;exact⟨(hb.cell (p:=⟨b,off+i*9,none⟩) hbl).trans c0,(hb.cell (p:=⟨b,off+i*9+1,none⟩) hbl).trans c1,(hb.cell (p:=⟨b,off+i*9+2,none⟩) hbl).trans c2,(hb.cell (p:=⟨b,off+i*9+3,none⟩) hbl).trans c3,(hb.cell (p:=⟨b,off+i*9+4,none⟩) hbl).trans c4,(hb.cell (p:=⟨b,off+i*9+5,none⟩) hbl).trans c5,(hb.cell (p:=⟨b,off+i*9+6,none⟩) hbl).trans c6,(hb.cell (p:=⟨b,off+i*9+7,none⟩) hbl).trans c7,(hb.cell (p:=⟨b,off+i*9+8,none⟩) hbl).trans c8⟩
theorem qx_ {w:World} {base n:Nat} {e:TypeId} {v:Value} {l:List Mv} (h:w.ownsRow base e 9 v n (zo_ l)) (hn:n=l.length):MW w v l:=by
 subst hn;have h':=h;obtain⟨hl,h⟩:=h;rcases h with⟨rfl,h0⟩ | ⟨g,cap,cur,rfl,hbg,hh,hcap,hm,hsz,htk⟩
 ·exact⟨none,0,by rw [h0],fun hne=>absurd (List.length_eq_zero_iff.1 h0) hne⟩
 ·refine⟨_,cap,rfl,fun _=>⟨g,0,rfl,(Array.getElem?_eq_some_iff.1 hh).1,fun i hi=> ?_⟩⟩;obtain⟨g0,g1,g2,g3,g4,g5,g6,g7,g8⟩:=tU_ l i hi;rw [Nat.zero_add];exact⟨by rw [h'.cellAt (i*9) (by omega),g0],by rw [h'.cellAt (i*9+1) (by omega),g1],by rw [h'.cellAt (i*9+2) (by omega),g2],by rw [h'.cellAt (i*9+3) (by omega),g3],by rw [h'.cellAt (i*9+4) (by omega),g4],by rw [h'.cellAt (i*9+5) (by omega),g5],by rw [h'.cellAt (i*9+6) (by omega),g6],by rw [h'.cellAt (i*9+7) (by omega),g7],by rw [h'.cellAt (i*9+8) (by omega),g8]⟩
def yN_:List Ld→List Value
 | []=> []
 | s::r=> .int .i64 s.t:: .int .i64 s.n::yN_ r
theorem vJ_ (l m:List Ld):yN_ (l++m)=yN_ l++yN_ m:=by
 induction l with
 | nil=>rfl
 | cons x r ih=>simp only [List.cons_append,yN_,ih]
theorem pu_ (l:List Ld) (i:Nat) (h:i<l.length):(yN_ l)[i*2]? =some (.int .i64 l[i].t)∧(yN_ l)[i*2+1]? =some (.int .i64 l[i].n):=by
 induction l generalizing i with
 | nil=>simp at h
 | cons x r ih=>
  cases i with
  | zero=>exact⟨rfl,rfl⟩
  | succ i=>
   have:=ih i (by simpa using h);simp only [yN_,List.getElem_cons_succ];have e:∀(m:Nat) (q0 q1:Value) (L:List Value),(q0::q1::L)[(i+1)*2+m]? =L[i*2+m]? :=by
    intro m q0 q1 L;rw [show (i+1)*2+m=(i*2+m)+1+1 from by omega];simp only [List.getElem?_cons_succ]
   have e0:=e 0;simp only [Nat.add_zero] at e0;rw [e0,e 1];exact this
def LW (w:World) (v:Value) (l:List Ld):Prop:=
 ∃a cap,v= .slice a l.length cap∧(l≠ []→∃b off,a=some ⟨b,off,none⟩∧b<w.heap.size∧
  ∀i (h:i<l.length),w.cell? ⟨b,off+i*2,none⟩=some (.int .i64 l[i].t)∧w.cell? ⟨b,off+i*2+1,none⟩=some (.int .i64 l[i].n))
theorem LW.below {w w':World} {v:Value} {l:List Ld} (h:LW w v l) (hb:Below w.heap.size w w'):LW w' v l:=by
 obtain⟨a,cap,hv,hc⟩:=h;refine⟨a,cap,hv,fun hl=> ?_⟩;obtain⟨b,off,ha,hbl,hcell⟩:=hc hl;refine⟨b,off,ha,Nat.lt_of_lt_of_le hbl hb.size,fun i hi=> ?_⟩;obtain⟨c0,c1⟩:=hcell i hi;exact⟨(hb.cell (p:=⟨b,off+i*2,none⟩) hbl).trans c0,(hb.cell (p:=⟨b,off+i*2+1,none⟩) hbl).trans c1⟩
theorem qy_ {w:World} {base n:Nat} {e:TypeId} {v:Value} {l:List Ld} (h:w.ownsRow base e 2 v n (yN_ l)) (hn:n=l.length):LW w v l:=by
 subst hn;have h':=h;obtain⟨hl,h⟩:=h;rcases h with⟨rfl,h0⟩ | ⟨g,cap,cur,rfl,hbg,hh,hcap,hm,hsz,htk⟩
 ·exact⟨none,0,by rw [h0],fun hne=>absurd (List.length_eq_zero_iff.1 h0) hne⟩
 ·refine⟨_,cap,rfl,fun _=>⟨g,0,rfl,(Array.getElem?_eq_some_iff.1 hh).1,fun i hi=> ?_⟩⟩;obtain⟨g0,g1⟩:=pu_ l i hi;rw [Nat.zero_add];exact⟨by rw [h'.cellAt (i*2) (by omega),g0],by rw [h'.cellAt (i*2+1) (by omega),g1]⟩
def NE (w:World) (x:Nv):Prop:=ER w (.slice x.la x.n.log.length x.lc) x.n.log∧IL w (.slice x.va x.n.vs.length x.vc) x.n.vs∧IL w (.slice x.ma x.n.mt.length x.mc) x.n.mt
def ME (w:World) (x:Mv):Prop:=ER w (.slice x.ea x.q.es.length x.ec) x.q.es
theorem NE.below {w w':World} {x:Nv} (h:NE w x) (hb:Below w.heap.size w w'):NE w' x:=⟨h.1.below hb,h.2.1.below hb,h.2.2.below hb⟩
theorem ME.below {w w':World} {x:Mv} (h:ME w x) (hb:Below w.heap.size w w'):ME w' x:=ER.below h hb
structure CR (w:World) (vn vm vl:Value) (N:List Nv) (M:List Mv) (L:List Ld):Prop where
 n:NW w vn N
 m:MW w vm M
 l:LW w vl L
 ne:∀i (h:i<N.length),NE w N[i]
 me:∀i (h:i<M.length),ME w M[i]
theorem CR.below {w w':World} {vn vm vl:Value} {N:List Nv} {M:List Mv} {L:List Ld} (h:CR w vn vm vl N M L) (hb:Below w.heap.size w w'):CR w' vn vm vl N M L:=
 ⟨h.n.below hb,h.m.below hb,h.l.below hb,fun i hi=>(h.ne i hi).below hb,fun i hi=>(h.me i hi).below hb⟩
theorem CR.shapes {w:World} {vn vm vl:Value} {N:List Nv} {M:List Mv} {L:List Ld} (h:CR w vn vm vl N M L):(∃a c,vn= .slice a N.length c)∧(∃a c,vm= .slice a M.length c)∧∃a c,vl= .slice a L.length c:=by
 obtain⟨a,c,e,_⟩:=h.n;obtain⟨a',c',e',_⟩:=h.m;obtain⟨a2,c2,e2,_⟩:=h.l;exact⟨⟨a,c,e⟩,⟨a',c',e'⟩,a2,c2,e2⟩
theorem Box.c3 {w:World} {b:Nat} {v0 v1 v2:Value} (h:Box w b [v0,v1,v2]):b<w.heap.size∧w.cell? ⟨b,0,none⟩=some v0∧w.cell? ⟨b,1,none⟩=some v1∧w.cell? ⟨b,2,none⟩=some v2:=⟨h.1,h.2.1 0 _ rfl,h.2.1 1 _ rfl,h.2.1 2 _ rfl⟩
theorem Box.f3 {w:World} {b:Nat} {v0 v1 v2:Value} (h:Box w b [v0,v1,v2]):w.frozen? ⟨b,0,none⟩=false∧w.frozen? ⟨b,1,none⟩=false∧w.frozen? ⟨b,2,none⟩=false:=⟨h.2.2 0,h.2.2 1,h.2.2 2⟩
instance : Coe Nv (List Value) := ⟨fun x => [.int .i64 x.n.id, .int .i64 x.n.pe, .int .i64 x.n.te, .int .i64 x.n.vo, .slice x.la x.n.log.length x.lc, .int .i64 x.n.co, .int .i64 x.n.ro, .slice x.va x.n.vs.length x.vc, .slice x.ma x.n.mt.length x.mc]⟩
instance : Coe Nv (Array Value) := ⟨fun x => #[.int .i64 x.n.id, .int .i64 x.n.pe, .int .i64 x.n.te, .int .i64 x.n.vo, .slice x.la x.n.log.length x.lc, .int .i64 x.n.co, .int .i64 x.n.ro, .slice x.va x.n.vs.length x.vc, .slice x.ma x.n.mt.length x.mc]⟩
instance : Coe Mv (List Value) := ⟨fun x => [.int .i64 x.q.ki, .int .i64 x.q.fr, .int .i64 x.q.dst, .int .i64 x.q.te, .int .i64 x.q.ix, .int .i64 x.q.be, .slice x.ea x.q.es.length x.ec, .int .i64 x.q.co, .bool x.q.ye]⟩
instance : Coe Mv (Array Value) := ⟨fun x => #[.int .i64 x.q.ki, .int .i64 x.q.fr, .int .i64 x.q.dst, .int .i64 x.q.te, .int .i64 x.q.ix, .int .i64 x.q.be, .slice x.ea x.q.es.length x.ec, .int .i64 x.q.co, .bool x.q.ye]⟩
end Go.Proofs.YtapfhhmimkkhnaaGreat
namespace Go.Proofs.YtapfhhmimkkhnaaGreat
set_option linter.unusedVariables false
theorem NInv.matched {n:Nat} {s:Sys} {j:Nat} {x:Nd} (h:NInv n s j x) (hr:x.ro=2) (mt:List Int) (hmt:∀i (hi:i<mt.length),(∃h2:i<x.mt.length,mt[i]≤x.mt[i])∨mt[i]≤(s.g.ack i (s.tm j):Int)):NInv n s j { x with mt:=mt } :=by
 obtain⟨a,b,c,d⟩:=h.le hr;refine⟨h.te,h.lg,h.v0,h.v1,h.aks,h.won,fun _=>⟨a,b,c,fun i hi=> ?_⟩,h.co⟩;rcases hmt i hi with⟨h2,e⟩ | e
 ·have:=d i h2;show mt[i]≤_;omega
 ·exact e
theorem NInv.counts {n:Nat} {s:Sys} {j:Nat} {x:Nd} (h:NInv n s j x) (hr:x.ro=1) (vs:List Int) (k:Nat) (hk:s.V k (s.tm j)=some j) (hvs:∀v∈vs,v∈x.vs∨v=(k:Int)):NInv n s j { x with vs:=vs } :=by
 obtain⟨a,b⟩:=h.aks hr;refine⟨h.te,h.lg,h.v0,h.v1,fun _=>⟨a,fun i hi=> ?_⟩,h.won,h.le,h.co⟩;rcases hvs _ hi with e | e
 ·exact b i e
 ·have:i=k:=by omega
  subst this;exact hk
theorem MInv.sent {n:Nat} {s:Sys} {j:Nat} {x:Nd} {m:Ms} (hA:AInv n s) (h:NInv n s j x) (hr:x.ro=2) (hk:m.ki=3) (hf:m.fr=(j:Int)) (hte:m.te=x.te) (hix:m.ix.toNat≤x.log.length) (hbe:m.be=tmAt x.log m.ix.toNat) (hco:m.co=x.co) (k:Nat) (hes:m.es=(x.log.drop m.ix.toNat).take k):MInv n s m:=by
 obtain⟨a,b,c,d⟩:=h.le hr;have hlog:x.log=s.g.LL (s.tm j):=h.lg.trans c;have htm:m.te=s.tm j:=hte.trans h.te;refine⟨fun hh=>by omega,fun hh=>by omega,fun _=> ?_,fun hh=>by omega⟩;rw [htm,←hlog];refine⟨a,by rw [b,hf];simp,hix,fun i hi=> ?_,hbe,?_⟩
 ·have hl:i<((x.log.drop m.ix.toNat).take k).length:=by rw [←hes];exact hi
  simp only [List.length_take,List.length_drop] at hl;refine⟨by omega,?_⟩;have:m.es[i]=((x.log.drop m.ix.toNat).take k)[i]'(by simp;omega):=by congr 1
  rw [this];simp
 ·rw [hco,h.lg];exact h.co
def Fits (n:Nat) (N:List Nd) (M:List Ms) (L:List Ld):Prop:=
 ∃s,AInv n s∧N.length=n∧(∀j (h:j<N.length),NInv n s j N[j])∧(∀m∈M,MInv n s m)∧∀l∈L,s.g.el l.t∧(s.wh l.t:Int)=l.n
def Sys.none:Sys:=⟨fun _=>0,fun _=> [],⟨fun _=>False,fun _=> [],fun _=> [],fun _ _=>0⟩,fun _=>0,fun _ _=>Option.none,fun _ _=> [],fun _ _=>Option.none⟩
theorem Fits.new (n:Nat) (N:List Nd) (hn:N.length=n) (hN:∀j (h:j<N.length),N[j].te=0∧N[j].vo= -1∧N[j].co=0∧N[j].ro=0∧N[j].log= []):Fits n N [] []:=by
 have hl0:yv_ Sys.none.g [] 0:=⟨fun i h=>by simp at h,fun i j h=>by simp at h,fun i h=>by simp at h⟩;refine⟨Sys.none,⟨fun j T k e=>(by cases e),fun T k P e=>(by cases e),fun j=>⟨hl0,?_⟩,(fun T e=>False.elim e),fun T _=>⟨rfl,fun _=>rfl⟩,fun j T=>⟨Nat.le_refl _,fun _=>rfl⟩,?_⟩,hn,fun j h=> ?_,fun m hm=>by simp at hm,fun l hl=>by simp at hl⟩
 ·intro T x hT hx;simp [Sys.none] at hx
 ·intro T U x hTU hel;exact hel.elim
 ·obtain⟨a,b,c,d,e⟩:=hN j h;exact⟨a,e,fun _=>rfl,fun k hk=>by omega,fun hr=>by omega,fun hr=>by omega,fun hr=>by omega,.inl (by rw [c];rfl)⟩
theorem Fits.election {n:Nat} {N:List Nd} {M:List Ms} {L:List Ld} (h:Fits n N M L) (a b:Ld) (ha:a∈L) (hb:b∈L) (e:a.t=b.t):a.n=b.n:=by
 obtain⟨s,_,_,_,_,hL⟩:=h;have h1:=(hL a ha).2;have h2:=(hL b hb).2;rw [e] at h1;omega
theorem Fits.leads {n:Nat} {N:List Nd} {M:List Ms} {L:List Ld} (h:Fits n N M L) (i j:Nat) (hi:i<N.length) (hj:j<N.length) (ri:N[i].ro=2) (rj:N[j].ro=2) (e:N[i].te=N[j].te):i=j:=by
 obtain⟨s,_,_,hN,_,_⟩:=h;have h1:=((hN i hi).le ri).2.1;have h2:=((hN j hj).le rj).2.1;rw [←(hN i hi).te] at h1;rw [←(hN j hj).te,←e] at h2;omega
theorem Fits.matching {n:Nat} {N:List Nd} {M:List Ms} {L:List Ld} (h:Fits n N M L) (i j k:Nat) (hi:i<N.length) (hj:j<N.length) (h1:k<N[i].log.length) (h2:k<N[j].log.length) (e:N[i].log[k].t=N[j].log[k].t):N[i].log.take (k+1)=N[j].log.take (k+1):=by
 obtain⟨s,hA,_,hN,_,_⟩:=h;have a:Ok s.g.LL N[i].log:=by rw [(hN i hi).lg];exact (hA.lo i).1.1
 have b:Ok s.g.LL N[j].log:=by rw [(hN j hj).lg];exact (hA.lo j).1.1
 exact (Go.Proofs.YtapfhhmimkkhnaaGreat.matching a b k h1 h2 e).2.2
theorem Fits.safety {n:Nat} {N:List Nd} {M:List Ms} {L:List Ld} (h:Fits n N M L) (i j c:Nat) (hi:i<N.length) (hj:j<N.length) (h1:c≤N[i].co.toNat) (h2:c≤N[j].co.toNat):Has N[i].log N[j].log c:=by
 obtain⟨s,hA,_,hN,_,_⟩:=h;have a:=(hN i hi).co;have b:=(hN j hj).co;rw [←(hN i hi).lg] at a;rw [←(hN j hj).lg] at b;by_cases hcd:N[i].co.toNat≤N[j].co.toNat
 ·exact (zp_.same hA.cm hA.hEL a b hcd).mono h1
 ·exact ((zp_.same hA.cm hA.hEL b a (by omega)).mono h2).symm
def rF_ (n:Nat) (s:Sys) (N:List Nd) (M:List Ms) (L:List Ld):Prop:=
 AInv n s∧N.length=n∧(∀j (h:j<N.length),NInv n s j N[j])∧(∀m∈M,MInv n s m)∧∀l∈L,s.g.el l.t∧(s.wh l.t:Int)=l.n
theorem Fits.to {n:Nat} {N:List Nd} {M:List Ms} {L:List Ld} (h:Fits n N M L):∃s,rF_ n s N M L:=h
theorem rF_.fits {n:Nat} {s:Sys} {N:List Nd} {M:List Ms} {L:List Ld} (h:rF_ n s N M L):Fits n N M L:=⟨s,h⟩
theorem rF_.step {n:Nat} {s s':Sys} {N:List Nd} {M M':List Ms} {L L':List Ld} {j:Nat} {x:Nd} (h:rF_ n s N M L) (hA:AInv n s') (e:Ext s s' j) (hx:NInv n s' j x) (hM:∀m∈M',m∈M∨MInv n s' m) (hL:∀l∈L',l∈L∨(s'.g.el l.t∧(s'.wh l.t:Int)=l.n)):rF_ n s' (N.set j x) M' L':=by
 obtain⟨_,hn,hN,hm,hl⟩:=h;refine⟨hA,by simp [hn],fun i hi=> ?_,fun m hm'=> ?_,fun l hl'=> ?_⟩
 ·have hi':i<N.length:=by simpa using hi
  by_cases hij:i=j
  ·subst hij;simpa using hx
  ·have:(N.set j x)[i]=N[i]:=by rw [List.getElem_set_ne];exact fun q=>hij q.symm
   rw [this];exact (hN i hi').ext e hij
 ·rcases hM m hm' with q | q
  ·exact (hm m q).ext e
  ·exact q
 ·rcases hL l hl' with q | q
  ·obtain⟨a,b⟩:=hl l q;exact⟨e.gr.el _ a,by rw [e.wh _ a];exact b⟩
  ·exact q
theorem Fits.net {n:Nat} {N:List Nd} {M M':List Ms} {L:List Ld} (h:Fits n N M L) (hM:∀m∈M',m∈M):Fits n N M' L:=by
 obtain⟨s,a,b,c,d,e⟩:=h;exact⟨s,a,b,c,fun m hm=>d m (hM m hm),e⟩
theorem Fits.crash {n:Nat} {N:List Nd} {M:List Ms} {L:List Ld} (h:Fits n N M L) (j:Nat) (hj:j<N.length):Fits n (N.set j { foN N[j] with co:=0 }) M L:=by
 obtain⟨s,hs⟩:=h.to;exact (hs.step hs.1 (Ext.refl s j) (hs.2.2.1 j hj).crash (fun m q=> .inl q) (fun l q=> .inl q)).fits
theorem Fits.send {n:Nat} {N:List Nd} {M:List Ms} {L:List Ld} (h:Fits n N M L) (M':List Ms) (hM:∀s,rF_ n s N M L→∀m∈M',m∈M∨MInv n s m):Fits n N M' L:=by
 obtain⟨s,hs⟩:=h.to;obtain⟨a,b,c,d,e⟩:=hs;refine⟨s,a,b,c,fun m hm=> ?_,e⟩;rcases hM s ⟨a,b,c,d,e⟩ m hm with q | q
 ·exact d m q
 ·exact q
end Go.Proofs.YtapfhhmimkkhnaaGreat
namespace Go.Proofs.YtapfhhmimkkhnaaGreat
open Go.RowKit Go.Maps
set_option linter.unusedVariables false
set_option maxRecDepth 100000

def zr_ {α:Type} (P:World→Nat→α→Prop) (B:α→Nat→Prop) (w:World) (lo hi:Nat) (l:List α):Prop:=
 lo≤hi∧(∀i (h:i<l.length),(∃c,lo≤c∧P w c l[i])∧∀b,B l[i] b→lo≤b∧b<hi)∧∀i j (h1:i<l.length) (h2:j<l.length),i≠j→∀b,B l[i] b→¬B l[j] b
theorem zr_.nil {α:Type} {P:World→Nat→α→Prop} {B:α→Nat→Prop} {w:World} {lo hi:Nat} (h:lo≤hi):zr_ P B w lo hi []:=⟨h,fun i h=>by simp at h,fun i j h=>by simp at h⟩
theorem zr_.hi {α:Type} {P:World→Nat→α→Prop} {B:α→Nat→Prop} {w:World} {lo hi hi':Nat} {l:List α} (h:zr_ P B w lo hi l) (hh:hi≤hi'):zr_ P B w lo hi' l:=
 ⟨Nat.le_trans h.1 hh,fun i hi=>⟨(h.2.1 i hi).1,fun b hb=>⟨((h.2.1 i hi).2 b hb).1,Nat.lt_of_lt_of_le ((h.2.1 i hi).2 b hb).2 hh⟩⟩,h.2.2⟩
theorem zr_.lo {α:Type} {P:World→Nat→α→Prop} {B:α→Nat→Prop} {w:World} {lo lo' hi:Nat} {l:List α} (h:zr_ P B w lo hi l) (hh:lo'≤lo):zr_ P B w lo' hi l:=by
 refine⟨Nat.le_trans hh h.1,fun i hi=>⟨?_,fun b hb=>⟨Nat.le_trans hh ((h.2.1 i hi).2 b hb).1,((h.2.1 i hi).2 b hb).2⟩⟩,h.2.2⟩;obtain⟨c,hc,hp⟩:=(h.2.1 i hi).1;exact⟨c,Nat.le_trans hh hc,hp⟩
theorem zr_.ends {α:Type} {P:World→Nat→α→Prop} {B:α→Nat→Prop} {w:World} {lo hi:Nat} {l:List α} (h:zr_ P B w lo hi l):lo≤hi:=h.1
theorem zr_.at {α:Type} {P:World→Nat→α→Prop} {B:α→Nat→Prop} {w:World} {lo hi:Nat} {l:List α} (h:zr_ P B w lo hi l) (i:Nat) (hi':i<l.length):∃b,lo≤b∧P w b l[i]∧∀b,B l[i] b→lo≤b∧b<hi:=by
 obtain⟨⟨c,hc,hp⟩,hb⟩:=h.2.1 i hi';exact⟨c,hc,hp,hb⟩
theorem zr_.mapI {α:Type} {P:World→Nat→α→Prop} {B:α→Nat→Prop} {w w':World} {lo hi:Nat} {l:List α} (h:zr_ P B w lo hi l) (f:∀i (h:i<l.length) c,P w c l[i]→(∀b,B l[i] b→lo≤b∧b<hi)→P w' c l[i]):zr_ P B w' lo hi l:=by
 refine⟨h.1,fun i hi=>⟨?_,(h.2.1 i hi).2⟩,h.2.2⟩;obtain⟨c,hc,hp⟩:=(h.2.1 i hi).1;exact⟨c,hc,f i hi c hp (h.2.1 i hi).2⟩
theorem zr_.map {α:Type} {P:World→Nat→α→Prop} {B:α→Nat→Prop} {w w':World} {lo hi:Nat} {l:List α} (h:zr_ P B w lo hi l) (f:∀c x,P w c x→(∀b,B x b→lo≤b∧b<hi)→P w' c x):zr_ P B w' lo hi l:=h.mapI fun i hi c hp hb=>f c _ hp hb
theorem zr_.put {α:Type} {P:World→Nat→α→Prop} {B:α→Nat→Prop} {w:World} {lo hi:Nat} {l:List α} (h:zr_ P B w lo hi l) (j:Nat) (x:α) (hp:∃c,lo≤c∧P w c x) (hb:∀b,B x b→lo≤b∧b<hi) (hd:∀i (h:i<l.length),i≠j→∀b,B x b→¬B l[i] b):zr_ P B w lo hi (l.set j x):=by
 refine⟨h.1,fun i hi'=> ?_,fun i k h1 h2 hik b=> ?_⟩
 ·simp only [List.length_set] at hi';by_cases hij:j=i
  ·subst hij;simp only [List.getElem_set_self];exact⟨hp,hb⟩
  ·simp only [List.getElem_set_ne hij];exact h.2.1 i hi'
 ·simp only [List.length_set] at h1 h2;by_cases hij:j=i
  ·subst hij;simp only [List.getElem_set_self,List.getElem_set_ne hik];exact hd k h2 (fun e=>hik e.symm) b
  ·simp only [List.getElem_set_ne hij];by_cases hjk:j=k
   ·subst hjk;simp only [List.getElem_set_self];exact fun h3 h4=>hd i h1 hik b h4 h3
   ·simp only [List.getElem_set_ne hjk];exact h.2.2 i k h1 h2 hik b
theorem zr_.more {α:Type} {P:World→Nat→α→Prop} {B:α→Nat→Prop} {w:World} {lo hi:Nat} {l:List α} {x:α} (h:zr_ P B w lo hi l) (hp:∃c,lo≤c∧P w c x) (hb:∀b,B x b→lo≤b∧b<hi) (hd:∀i (h:i<l.length),∀b,B x b→¬B l[i] b):zr_ P B w lo hi (l++ [x]):=by
 refine⟨h.1,fun i hi'=> ?_,fun i k h1 h2 hik b=> ?_⟩
 ·simp only [List.length_append,List.length_singleton] at hi';by_cases hil:i<l.length
  ·simp only [List.getElem_append_left hil];exact h.2.1 i hil
  ·obtain rfl:i=l.length:=by omega
   simp only [List.getElem_append_right (Nat.le_refl _),Nat.sub_self,List.getElem_cons_zero];exact⟨hp,hb⟩
 ·simp only [List.length_append,List.length_singleton] at h1 h2;by_cases hil:i<l.length
  ·simp only [List.getElem_append_left hil];by_cases hkl:k<l.length
   ·simp only [List.getElem_append_left hkl];exact h.2.2 i k hil hkl hik b
   ·obtain rfl:k=l.length:=by omega
    simp only [List.getElem_append_right (Nat.le_refl _),Nat.sub_self,List.getElem_cons_zero];exact fun h3 h4=>hd i hil b h4 h3
  ·obtain rfl:i=l.length:=by omega
   have hkl:k<l.length:=by omega
   simp only [List.getElem_append_right (Nat.le_refl _),Nat.sub_self,List.getElem_cons_zero,List.getElem_append_left hkl];exact hd k hkl b
theorem zr_.push {α:Type} {P:World→Nat→α→Prop} {B:α→Nat→Prop} {w:World} {lo hi hi':Nat} {l:List α} {x:α} (h:zr_ P B w lo hi l) (hp:P w hi x) (hb:∀b,B x b→hi≤b∧b<hi') (hh:hi≤hi'):zr_ P B w lo hi' (l++ [x]):=
 (h.hi hh).more ⟨hi,h.1,hp⟩ (fun b hb'=>⟨Nat.le_trans h.1 (hb b hb').1,(hb b hb').2⟩) (fun i hi b h1 h2=>by have:=(h.2.1 i hi).2 b h2;have:=hb b h1;omega)
theorem zr_.out {α:Type} {P:World→Nat→α→Prop} {B:α→Nat→Prop} {w:World} {lo hi:Nat} {l:List α} (h:zr_ P B w lo hi l) (k:Nat):zr_ P B w lo hi (l.eraseIdx k):=by
 have e:∀i (hi:i<(l.eraseIdx k).length),∃j,∃hj:j<l.length,(l.eraseIdx k)[i]=l[j]∧j=if i<k then i else i+1:=fun i hi=>by
  have hl:(l.eraseIdx k).length≤l.length:=List.length_eraseIdx_le l k;by_cases hik:i<k
  ·exact⟨i,by omega,by rw [List.getElem_eraseIdx];simp [hik],by simp [hik]⟩
  ·have hlen:=hi;rw [List.length_eraseIdx] at hlen;have hj:i+1<l.length:=by split at hlen <;>omega
   exact⟨i+1,hj,by rw [List.getElem_eraseIdx];simp [hik],by simp [hik]⟩
 refine⟨h.1,fun i hi'=> ?_,fun i j h1 h2 hij b=> ?_⟩
 ·obtain⟨q,hq,e1,_⟩:=e i hi';rw [e1];exact h.2.1 q hq
 ·obtain⟨q,hq,e1,e2⟩:=e i h1;obtain⟨r,hr,e3,e4⟩:=e j h2;rw [e1,e3];refine h.2.2 q r hq hr ?_ b;intro he;apply hij;rw [e2,e4] at he;split at he <;>split at he <;>omega
def PN (w:World) (b:Nat) (x:Nv):Prop:=OwnN w b (.slice x.la x.n.log.length x.lc) (.slice x.va x.n.vs.length x.vc) (.slice x.ma x.n.mt.length x.mc) x.n.log x.n.vs x.n.mt
def BN (x:Nv) (b:Nat):Prop:=NB (.slice x.la x.n.log.length x.lc) (.slice x.va x.n.vs.length x.vc) (.slice x.ma x.n.mt.length x.mc) b
def PM (w:World) (b:Nat) (x:Mv):Prop:=w.ownsRow b 44 2 (.slice x.ea x.q.es.length x.ec) x.q.es.length (zF_ x.q.es)
def BM (x:Mv) (b:Nat):Prop:=(Value.slice x.ea x.q.es.length x.ec).ownBlock=some b
theorem zr_.belowN {w w':World} {lo hi:Nat} {l:List Nv} (h:zr_ PN BN w lo hi l) (hb:Below w.heap.size w w'):zr_ PN BN w' lo hi l:=h.map fun c x hp _=>OwnN.below hp hb
theorem zr_.chgN {w w':World} {S:Nat→Prop} {lo hi:Nat} {l:List Nv} (h:zr_ PN BN w lo hi l) (hc:Chg S w w') (hs:∀b,S b→b<lo∨hi≤b):zr_ PN BN w' lo hi l:=h.map fun c x hp hb=>OwnN.chg hp hc (fun b h1 h2=>by have:=hb b h1;have:=hs b h2;omega)
theorem PN.in {w:World} {b:Nat} {x:Nv} (h:PN w b x):∀g,BN x g→b≤g∧g<w.heap.size:=fun g hg=>OwnN.lt h g hg
theorem PN.ne {w:World} {b:Nat} {x:Nv} (h:PN w b x):NE w x:=⟨OwnN.er h,OwnN.iv h,OwnN.im h⟩
theorem zr_.belowM {w w':World} {lo hi:Nat} {l:List Mv} (h:zr_ PM BM w lo hi l) (hb:Below w.heap.size w w'):zr_ PM BM w' lo hi l:=h.map fun c x hp _=>zd_ hp hb
theorem zr_.chgM {w w':World} {S:Nat→Prop} {lo hi:Nat} {l:List Mv} (h:zr_ PM BM w lo hi l) (hc:Chg S w w') (hs:∀b,S b→b<lo∨hi≤b):zr_ PM BM w' lo hi l:=h.map fun c x hp hb=>hc.owns hp (fun b h1 h2=>by have:=hb b h1;have:=hs b h2;omega)
theorem PM.in {w:World} {b:Nat} {x:Mv} (h:PM w b x):∀g,BM x g→b≤g∧g<w.heap.size:=fun g hg=>⟨zg_ h g hg,zh_ h g hg⟩
theorem PM.me {w:World} {b:Nat} {x:Mv} (h:PM w b x):ME w x:=yd_ h rfl
theorem Tryz.info34:(Tryz.prog.info? 34).map (fun i=>(i.zero,i.size,i.bytes))=some (some (.agg #[(0:Int),(0:Int)]),2,16):=by kernel_rfl
theorem Tryz.info42:(Tryz.prog.info? 42).map (fun i=>(i.zero,i.size,i.bytes))=some (some (.agg zN),9,120):=by kernel_rfl

structure CS (N:List Nv) (M:List Mv) (L:List Ld):Prop where
 n:N.length≤1048576
 m:M.length≤1048576
 l:L.length≤1048576
 ne:∀i (h:i<N.length),N[i].n.log.length≤1048576∧N[i].n.vs.length≤1048576∧N[i].n.mt.length≤1048576
 me:∀i (h:i<M.length),M[i].q.es.length≤1048576
 ns:∀i (h:i<N.length) j (h2:j<N[i].n.log.length),N[i].n.log[j].d.size≤1048576
 ms:∀i (h:i<M.length) j (h2:j<M[i].q.es.length),M[i].q.es[j].d.size≤1048576
structure OwnC (w:World) (lo hi:Nat) (vn vm vl:Value) (N:List Nv) (M:List Mv) (L:List Ld):Prop where
 n:w.ownsRow lo 42 9 vn N.length (zI_ N)
 m:w.ownsRow lo 80 9 vm M.length (zo_ M)
 l:w.ownsRow lo 34 2 vl L.length (yN_ L)
 cn:zr_ PN BN w lo hi N
 cm:zr_ PM BM w lo hi M
 ap:∀i j (h1:i<N.length) (h2:j<M.length) b,BN N[i] b→¬BM M[j] b
 bn:∀b,vn.ownBlock=some b→b<hi
 bm:∀b,vm.ownBlock=some b→b<hi
 bl:∀b,vl.ownBlock=some b→b<hi
theorem OwnC.below {w w':World} {lo hi:Nat} {vn vm vl:Value} {N:List Nv} {M:List Mv} {L:List Ld} (h:OwnC w lo hi vn vm vl N M L) (hb:Below w.heap.size w w'):OwnC w' lo hi vn vm vl N M L:=
 ⟨zd_ h.n hb,zd_ h.m hb,zd_ h.l hb,h.cn.belowN hb,h.cm.belowM hb,h.ap,h.bn,h.bm,h.bl⟩
theorem OwnC.chg {w w':World} {S:Nat→Prop} {lo hi:Nat} {vn vm vl:Value} {N:List Nv} {M:List Mv} {L:List Ld} (h:OwnC w lo hi vn vm vl N M L) (hc:Chg S w w') (hs:∀b,S b→b<lo∨hi≤b):OwnC w' lo hi vn vm vl N M L:=by
 have e1:=h.cn.ends;have e2:=h.cm.ends;refine⟨hc.owns h.n fun b hb hh=> ?_,hc.owns h.m fun b hb hh=> ?_,hc.owns h.l fun b hb hh=> ?_,h.cn.chgN hc fun b hb=> ?_,h.cm.chgM hc fun b hb=> ?_,h.ap,h.bn,h.bm,h.bl⟩
 ·have:=zg_ h.n b hb;have:=h.bn b hb;have:=hs b hh;omega
 ·have:=zg_ h.m b hb;have:=h.bm b hb;have:=hs b hh;omega
 ·have:=zg_ h.l b hb;have:=h.bl b hb;have:=hs b hh;omega
 ·have:=hs b hb;omega
 ·have:=hs b hb;omega
theorem OwnC.cr {w:World} {lo hi:Nat} {vn vm vl:Value} {N:List Nv} {M:List Mv} {L:List Ld} (h:OwnC w lo hi vn vm vl N M L):CR w vn vm vl N M L:=
 ⟨qw_ h.n rfl,qx_ h.m rfl,qy_ h.l rfl,fun i hi'=>by obtain⟨_,_,q,_⟩:=h.cn.at i hi';exact PN.ne q,fun i hi'=>by obtain⟨_,_,q,_⟩:=h.cm.at i hi';exact PM.me q⟩
theorem OwnC.lohi {w:World} {lo hi:Nat} {vn vm vl:Value} {N:List Nv} {M:List Mv} {L:List Ld} (h:OwnC w lo hi vn vm vl N M L):lo≤hi:=h.cn.ends
theorem OwnC.shapes {w:World} {lo hi:Nat} {vn vm vl:Value} {N:List Nv} {M:List Mv} {L:List Ld} (h:OwnC w lo hi vn vm vl N M L):(∃a c,vn= .slice a N.length c)∧(∃a c,vm= .slice a M.length c)∧∃a c,vl= .slice a L.length c:=h.cr.shapes
def put3 (w:World) (b:Nat) (v0 v1 v2:Value):World:=((w.setCell ⟨b,0,none⟩ v0).setCell ⟨b,1,none⟩ v1).setCell ⟨b,2,none⟩ v2
theorem uZ_ (w:World) (b:Nat) (v0 v1 v2:Value):Chg (· =b) w (put3 w b v0 v1 v2):=
 Chg.setCell (S:=(· =b)) (Chg.setCell (S:=(· =b)) (Chg.setCell (S:=(· =b)) (Chg.refl _ _) rfl _) rfl _) rfl _
theorem ta_ {w:World} {b:Nat} {u0 u1 u2:Value} (h:Box w b [u0,u1,u2]) (v0 v1 v2:Value):Box (put3 w b v0 v1 v2) b [v0,v1,v2]:=
 ((h.set 0 v0 (by simp)).set 1 v1 (by simp)).set 2 v2 (by simp)
theorem zi_ (w:World) {b:Nat} {u0 u1 u2:Value} (h:Box w b [u0,u1,u2]) (v0 v1 v2:Value):∃W,W=put3 w b v0 v1 v2∧Chg (fun k=>k=b) w W∧Box W b [v0,v1,v2]:=⟨_,rfl,uZ_ ..,ta_ h ..⟩
end Go.Proofs.YtapfhhmimkkhnaaGreat
