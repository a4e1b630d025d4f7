/-
  A node as a struct: the law's own szRaftNode, toRaftNode, eqRaftNode, markRaftNode, heldRaftNode.
  Nodes compared, marked and held.
  Entries and numbers appended to rows of one's own, nil or not; slices of entries.
  slices.Clone of entries and of numbers; a node copied: copyNode, following, l11Own, l11Follow.
  A node copied: copyNode, following; l11Own, l11Follow.
-/
import Derived.Test.YtapfhhmimkkhnaaP4ToP6
import Derived.Maps.AppendAt
import Derived.Laws.OwnMore
namespace Go.Proofs.Ytapfhhmimkkhnaa
open Go.RowKit
set_option linter.unusedVariables false
set_option maxRecDepth 100000
def put9 (w:World) (b:Nat) (v0 v1 v2 v3 v4 v5 v6 v7 v8:Value):World:=((((((((w.setCell ⟨b,0,none⟩ v0).setCell ⟨b,1,none⟩ v1).setCell ⟨b,2,none⟩ v2).setCell ⟨b,3,none⟩ v3).setCell ⟨b,4,none⟩ v4).setCell ⟨b,5,none⟩ v5).setCell ⟨b,6,none⟩ v6).setCell ⟨b,7,none⟩ v7).setCell ⟨b,8,none⟩ v8
theorem zo_ (w:World) (b:Nat) (v0 v1 v2 v3 v4 v5 v6 v7 v8:Value):Chg (· =b) w (put9 w b v0 v1 v2 v3 v4 v5 v6 v7 v8):=by
 unfold put9
 iterate 9 (refine Chg.setCell (S:=fun k=>k=b) ?_ rfl _)
 exact Chg.refl _ _
theorem zp_ {w:World} {b:Nat} {u0 u1 u2 u3 u4 u5 u6 u7 u8:Value} (h:Box w b [u0,u1,u2,u3,u4,u5,u6,u7,u8]) (v0 v1 v2 v3 v4 v5 v6 v7 v8:Value):Box (put9 w b v0 v1 v2 v3 v4 v5 v6 v7 v8) b [v0,v1,v2,v3,v4,v5,v6,v7,v8]:=
 ((((((((h.set 0 v0 (by simp)).set 1 v1 (by simp)).set 2 v2 (by simp)).set 3 v3 (by simp)).set 4 v4 (by simp)).set 5 v5 (by simp)).set 6 v6 (by simp)).set 7 v7 (by simp)).set 8 v8 (by simp)
theorem Box.f9 {w:World} {b:Nat} {v0 v1 v2 v3 v4 v5 v6 v7 v8:Value} (h:Box w b [v0,v1,v2,v3,v4,v5,v6,v7,v8]):w.frozen? ⟨b,0,none⟩=false∧w.frozen? ⟨b,1,none⟩=false∧w.frozen? ⟨b,2,none⟩=false∧w.frozen? ⟨b,3,none⟩=false∧w.frozen? ⟨b,4,none⟩=false∧w.frozen? ⟨b,5,none⟩=false∧w.frozen? ⟨b,6,none⟩=false∧w.frozen? ⟨b,7,none⟩=false∧w.frozen? ⟨b,8,none⟩=false:=
 ⟨h.2.2 0,h.2.2 1,h.2.2 2,h.2.2 3,h.2.2 4,h.2.2 5,h.2.2 6,h.2.2 7,h.2.2 8⟩
structure OwnN (w:World) (base:Nat) (vl vv vm:Value) (log:List En) (vs mt:List Int):Prop where
 l:w.ownsRow base 34 2 vl log.length (zE_ log)
 v:w.ownsRow base 3 1 vv vs.length (vs.map (.int .i64))
 m:w.ownsRow base 3 1 vm mt.length (mt.map (.int .i64))
 ne:∀g,vv.ownBlock=some g→vm.ownBlock≠some g
def NB (vl vv vm:Value) (b:Nat):Prop:=vl.ownBlock=some b∨vv.ownBlock=some b∨vm.ownBlock=some b
theorem OwnN.below {w w':World} {base:Nat} {vl vv vm:Value} {log:List En} {vs mt:List Int} (h:OwnN w base vl vv vm log vs mt) (hb:Below w.heap.size w w'):OwnN w' base vl vv vm log vs mt:=⟨zd_ h.l hb,zd_ h.v hb,zd_ h.m hb,h.ne⟩
theorem OwnN.chg {w w':World} {S:Nat→Prop} {base:Nat} {vl vv vm:Value} {log:List En} {vs mt:List Int} (h:OwnN w base vl vv vm log vs mt) (hc:Chg S w w') (hs:∀b,NB vl vv vm b→¬S b):OwnN w' base vl vv vm log vs mt:=
 ⟨hc.owns h.l fun g hg=>hs g (.inl hg),hc.owns h.v fun g hg=>hs g (.inr (.inl hg)),hc.owns h.m fun g hg=>hs g (.inr (.inr hg)),h.ne⟩
theorem OwnN.mono {w:World} {base base':Nat} {vl vv vm:Value} {log:List En} {vs mt:List Int} (h:OwnN w base vl vv vm log vs mt) (hb:base'≤base):OwnN w base' vl vv vm log vs mt:=⟨zg_ h.l hb,zg_ h.v hb,zg_ h.m hb,h.ne⟩
theorem OwnN.lt {w:World} {base:Nat} {vl vv vm:Value} {log:List En} {vs mt:List Int} (h:OwnN w base vl vv vm log vs mt) (b:Nat) (hb:NB vl vv vm b):base≤b∧b<w.heap.size:=by
 rcases hb with hb | hb | hb
 ·exact⟨ze_ h.l b hb,zh_ h.l b hb⟩
 ·exact⟨ze_ h.v b hb,zh_ h.v b hb⟩
 ·exact⟨ze_ h.m b hb,zh_ h.m b hb⟩
theorem OwnN.er {w:World} {base:Nat} {vl vv vm:Value} {log:List En} {vs mt:List Int} (h:OwnN w base vl vv vm log vs mt):ER w vl log:=zO_ h.l rfl
theorem OwnN.iv {w:World} {base:Nat} {vl vv vm:Value} {log:List En} {vs mt:List Int} (h:OwnN w base vl vv vm log vs mt):IL w vv vs:=zY_ h.v rfl
theorem OwnN.im {w:World} {base:Nat} {vl vv vm:Value} {log:List En} {vs mt:List Int} (h:OwnN w base vl vv vm log vs mt):IL w vm mt:=zY_ h.m rfl
theorem OwnN.nil (w:World) (base:Nat):OwnN w base (.slice none 0 0) (.slice none 0 0) (.slice none 0 0) [] [] []:=⟨World.ownsRow_nil _ _ _ _,World.ownsRow_nil _ _ _ _,World.ownsRow_nil _ _ _ _,fun g hg=>by simp [Value.ownBlock] at hg⟩
theorem zj_ (w:World) {b:Nat} {u0 u1 u2 u3 u4 u5 u6 u7 u8:Value} (h:Box w b [u0,u1,u2,u3,u4,u5,u6,u7,u8]) (v0 v1 v2 v3 v4 v5 v6 v7 v8:Value):∃W,W=put9 w b v0 v1 v2 v3 v4 v5 v6 v7 v8∧Chg (fun k=>k=b) w W∧Box W b [v0,v1,v2,v3,v4,v5,v6,v7,v8]:=⟨_,rfl,zo_ ..,zp_ h ..⟩
structure MkN (w:World) (base:Nat) (vl vv vm:Value) (nl nv nm:Nat) (k:Int):Prop where
 l:w.ownsRow base 34 2 vl nl (zE_ (mkEs k nl))
 v:w.ownsRow base 3 1 vv nv (mkI (k+2*nl) nv)
 m:w.ownsRow base 3 1 vm nm (mkI (k+2*nl+nv) nm)
theorem MkN.below {w w':World} {base:Nat} {vl vv vm:Value} {nl nv nm:Nat} {k:Int} (h:MkN w base vl vv vm nl nv nm k) (hb:Below w.heap.size w w'):MkN w' base vl vv vm nl nv nm k:=⟨zd_ h.l hb,zd_ h.v hb,zd_ h.m hb⟩
theorem MkN.chg {w w':World} {S:Nat→Prop} {base:Nat} {vl vv vm:Value} {nl nv nm:Nat} {k:Int} (h:MkN w base vl vv vm nl nv nm k) (hc:Chg S w w') (hs:∀b,NB vl vv vm b→¬S b):MkN w' base vl vv vm nl nv nm k:=
 ⟨hc.owns h.l fun g hg=>hs g (.inl hg),hc.owns h.v fun g hg=>hs g (.inr (.inl hg)),hc.owns h.m fun g hg=>hs g (.inr (.inr hg))⟩
theorem MkN.lt {w:World} {base:Nat} {vl vv vm:Value} {nl nv nm:Nat} {k:Int} (h:MkN w base vl vv vm nl nv nm k) (b:Nat) (hb:NB vl vv vm b):base≤b∧b<w.heap.size:=by
 rcases hb with hb | hb | hb
 ·exact⟨ze_ h.l b hb,zh_ h.l b hb⟩
 ·exact⟨ze_ h.v b hb,zh_ h.v b hb⟩
 ·exact⟨ze_ h.m b hb,zh_ h.m b hb⟩
theorem OwnN.shapes {w:World} {base:Nat} {vl vv vm:Value} {log:List En} {vs mt:List Int} (h:OwnN w base vl vv vm log vs mt):(∃a c,vl= .slice a log.length c)∧(∃a c,vv= .slice a vs.length c)∧∃a c,vm= .slice a mt.length c:=⟨zf_ h.l,zf_ h.v,zf_ h.m⟩
end Go.Proofs.Ytapfhhmimkkhnaa
namespace Go
theorem ye_ {P:Program} (w:World) {ops:Array Oper} {rest:List Oper} {o:Oper} {a:Act} {Q:Exit→Act→World→Prop} (hgd:o.guard=none) (t:TypeId) (x:Operand) (lo hi mx:Option Operand)
  (ho:o.op= .slice t x lo hi mx) (v:Value) (hrun:(Instr.sliceAt t (a.eval x) (lo.map a.eval) (hi.map a.eval) (mx.map a.eval)).run P w= .ok v w)
  (h:wpList P ops Q rest (a.put o.dst v) w):wpList P ops Q (o::rest) a w:=by
 refine wpList_plain hgd fun K hK'=> ?_;unfold Oper.wp;simp [execOp,ho,hrun];exact hK' _ _ h
end Go
namespace Go.Proofs.Ytapfhhmimkkhnaa
open Go.RowKit Go.Maps
set_option linter.unusedVariables false
set_option maxRecDepth 100000
theorem sl_to (a:Option Addr) (n cap p:Nat) (w:World) (hp:p≤cap):(Instr.sliceAt 23 (.slice a n cap) none (some (.int .i64 p)) none).run Try.prog w= .ok (.slice a p cap) w:=by
 have h1:(p:Int)≤(cap:Int):=by omega
 have h2:(0:Int)≤(p:Int):=by omega
 have e:a.map (fun x=>x.add (0*2))=a:=by cases a <;>simp [Addr.add]
 have hA:(Instr.sliceAt 23 (.slice a n cap) none (some (.int .i64 p)) none).run Try.prog w=(Instr.slice 23 (.slice a n cap) none (some (.int .i64 p)) none).run Try.prog w:=by simp [Instr.sliceAt,run_underlying Try.underlying23]
 rw [hA];simp [Instr.slice,Instr.sliceBounds,Instr.sliceBound,asIntOf,run_underlying Try.underlying23,hp,h2,Try.sizeOf34]
 cases a <;>simp [Addr.add]
theorem sl_from (w:World) (a:Option Addr) (cap p:Nat) (zs:List En) (h:ER w (.slice a zs.length cap) zs) (hc:zs.length≤cap) (hp:p≤zs.length):∃a2,(∀w,(Instr.sliceAt 23 (.slice a zs.length cap) (some (.int .i64 p)) none none).run Try.prog w= .ok (.slice a2 (zs.length-p) (cap-p)) w)∧ER w (.slice a2 (zs.length-p) (cap-p)) (zs.drop p):=by
 refine⟨if cap=p then a else a.map (fun x=>x.add (p*2)),fun w=> ?_,?_⟩
 ·have h1:(p:Int)≤(zs.length:Int):=by omega
  have h2:(0:Int)≤(p:Int):=by omega
  have hA:(Instr.sliceAt 23 (.slice a zs.length cap) (some (.int .i64 p)) none none).run Try.prog w=(Instr.slice 23 (.slice a zs.length cap) (some (.int .i64 p)) none none).run Try.prog w:=by simp [Instr.sliceAt,run_underlying Try.underlying23]
  rw [hA];simp [Instr.slice,Instr.sliceBounds,Instr.sliceBound,asIntOf,run_underlying Try.underlying23,hp,h2,Try.sizeOf34]
 ·obtain⟨a',c',he,hcc⟩:=h;simp only [Value.slice.injEq,true_and] at he;obtain⟨rfl,rfl⟩:=he;refine⟨_,_,by rw [List.length_drop],fun hne=> ?_⟩;have hlt:p<zs.length:=by
   rcases Nat.lt_or_ge p zs.length with h | h
   ·exact h
   ·exact absurd (List.drop_eq_nil_of_le h) hne
  obtain⟨b,off,rfl,hb,hcell⟩:=hcc (by intro e;rw [e] at hlt;simp at hlt);rw [if_neg (by omega)];refine⟨b,off+p*2,by simp [Addr.add],hb,fun i hi=> ?_⟩;rw [List.getElem_drop];rw [List.length_drop] at hi;have hq:=hcell (p+i) (by omega);rw [show off+(p+i)*2=off+p*2+i*2 from by omega] at hq;exact hq
theorem ER_to {w:World} {a:Option Addr} {cap p:Nat} {zs:List En} (h:ER w (.slice a zs.length cap) zs) (hp:p≤zs.length):ER w (.slice a p cap) (zs.take p):=by
 obtain⟨a',c',he,hc⟩:=h;simp only [Value.slice.injEq,true_and] at he;obtain⟨rfl,rfl⟩:=he;have hlen:(zs.take p).length=p:=by simp;omega
 refine⟨a,cap,by rw [hlen],fun hne=> ?_⟩;obtain⟨b,off,rfl,hb,hcell⟩:=hc (by intro e;rw [e] at hne;simp at hne);refine⟨b,off,rfl,hb,fun i hi=> ?_⟩;rw [List.getElem_take];exact hcell i (by omega)
theorem run_nothing_ent {w:World} {base n:Nat} {v:Value} {xs:List Value} (c:Nat) (h:w.ownsRow base 34 2 v n xs):(Builtin.append_ #[23,23] 23 #[v,.slice none 0 c]).run Try.prog w= .ok v w:=by
 rcases h.2 with⟨rfl,h0⟩ | ⟨g,cap,cur,rfl,hbase,hb,h1,h2,h3,h4⟩
 ·simp [Builtin.append_,run_underlying Try.underlying23,Builtin.lenOf,Builtin.firstCells,Try.sizeOf34]
 ·simp [Builtin.append_,run_underlying Try.underlying23,Builtin.lenOf,Builtin.firstCells,Try.sizeOf34,h1,storeCells]
theorem zJ_ (w:World) {ops:Array Oper} {rest:List Oper} {o:Oper} {a:Act} {Q:Exit→Act→World→Prop} (hgd:o.guard=none) (s x:Operand)
  (ho:o.op= .call ⟨.builtin .append,#[s,x],#[23,23]⟩) (hty:o.type=23)
  (base:Nat) (v:Value) (n:Nat) (zs:List En) (hs:a.eval s=v) (hown:w.ownsRow base 34 2 v n (zE_ zs))
  (xv:Value) (ys:List En) (hx:a.eval x=xv) (hI:ER w xv ys) (hn:n+ys.length≤2000000) (hbase:base≤w.heap.size)
  (h:∀v' w',w'.ownsRow base 34 2 v' (n+ys.length) (zE_ (zs++ys))→w.grownBy w' v.ownBlock→wpList Try.prog ops Q rest (a.put o.dst v') w'):wpList Try.prog ops Q (o::rest) a w:=by
 obtain⟨i0,hi,hz0,hzs,hzb⟩:=info_parts Try.info34;obtain⟨xa,xc,rfl,hc⟩:=hI
 cases xa with
 | none=>
  have hy:ys= []:=by
   by_cases e:ys= []
   ·exact e
   ·obtain⟨b,off,h,_⟩:=hc e;cases h
  subst hy;refine wpList_plain hgd fun K hK'=> ?_;have hrun:=run_nothing_ent xc hown;unfold Oper.wp;simp [execOp,ho,resolve,invoke,builtin,hs,hx,hty,hrun,Result.andThen];exact hK' _ _ (h v w (by simpa using hown) ⟨rfl,rfl,rfl,Nat.le_refl _,fun _ _ _=>rfl⟩)
 | some ad=>
  refine wpList_append_own _ hgd s x 23 ho base 34 i0 (.agg #[(0:Int),.string ⟨#[]⟩]) 2 24 Try.underlying23 hi hz0 hzs hzb rfl (by decide) v n (zE_ zs) hs hown ad ys.length xc (zE_ ys) hx (zU_ ys) ?_ ?_ (by unfold maxLen;omega) (by omega) hbase fun v' w' h1 h2 _=>h v' w' (by rw [flat2_append];exact h1) h2
  ·intro j u hj;have hj4:j<ys.length*2:=by rw [←zU_ ys];exact (List.getElem?_eq_some_iff.1 hj).1
   obtain⟨b,off,he,hb,hcell⟩:=hc (by intro e;rw [e] at hj4;simp at hj4);injection he with he;subst he;have ea:∀j,(⟨b,off,none⟩:Addr).add j=⟨b,off+j,none⟩:=fun j=>by simp [Addr.add]
   obtain⟨c0,c1⟩:=hcell (j / 2) (by omega);obtain⟨g0,g1⟩:=flat2_get ys (j / 2) (by omega);obtain hm | hm:j % 2=0∨j % 2=1:=by omega
   ·have e:j=j / 2*2:=by omega
    rw [←e] at g0 c0;rw [g0] at hj;injection hj with hj;rw [←hj,ea];exact c0
   ·have e:j=j / 2*2+1:=by omega
    rw [←e] at g1;rw [g1] at hj;injection hj with hj;rw [←hj,ea,show off+j=off+j / 2*2+1 from by omega];exact c1
  ·intro u hu;obtain⟨j,hj,e⟩:=List.getElem_of_mem hu;rw [zU_] at hj;have hj':(zE_ ys)[j]? =some u:=List.getElem?_eq_some_iff.2 ⟨by rw [zU_];exact hj,e⟩;obtain⟨g0,g1⟩:=flat2_get ys (j / 2) (by omega);obtain hm | hm:j % 2=0∨j % 2=1:=by omega
   ·rw [show j=j / 2*2 from by omega,g0] at hj';injection hj' with hj';rw [←hj'];rfl
   ·rw [show j=j / 2*2+1 from by omega,g1] at hj';injection hj' with hj';rw [←hj'];rfl
theorem run_nothing_int {w:World} {base n:Nat} {v:Value} {xs:List Value} (c:Nat) (h:w.ownsRow base 3 1 v n xs):(Builtin.append_ #[24,24] 24 #[v,.slice none 0 c]).run Try.prog w= .ok v w:=by
 rcases h.2 with⟨rfl,h0⟩ | ⟨g,cap,cur,rfl,hbase,hb,h1,h2,h3,h4⟩
 ·simp [Builtin.append_,run_underlying Try.underlying24,Builtin.lenOf,Builtin.firstCells,Try.sizeOf3]
 ·simp [Builtin.append_,run_underlying Try.underlying24,Builtin.lenOf,Builtin.firstCells,Try.sizeOf3,h1,storeCells]
theorem zw_ (w:World) {ops:Array Oper} {rest:List Oper} {o:Oper} {a:Act} {Q:Exit→Act→World→Prop} (hgd:o.guard=none) (s x:Operand)
  (ho:o.op= .call ⟨.builtin .append,#[s,x],#[24,24]⟩) (hty:o.type=24)
  (base:Nat) (v:Value) (n:Nat) (zs:List Int) (hs:a.eval s=v) (hown:w.ownsRow base 3 1 v n (zs.map (.int .i64)))
  (xv:Value) (ys:List Int) (hx:a.eval x=xv) (hI:IL w xv ys) (hn:n+ys.length≤2000000) (hbase:base≤w.heap.size)
  (h:∀v' w',w'.ownsRow base 3 1 v' (n+ys.length) ((zs++ys).map (.int .i64))→w.grownBy w' v.ownBlock→wpList Try.prog ops Q rest (a.put o.dst v') w'):wpList Try.prog ops Q (o::rest) a w:=by
 obtain⟨i0,hi,hz0,hzs,hzb⟩:=info_parts Try.info3;obtain⟨xa,xc,rfl,hc⟩:=hI
 cases xa with
 | none=>
  have hy:ys= []:=by
   by_cases e:ys= []
   ·exact e
   ·obtain⟨b,off,h,_⟩:=hc e;cases h
  subst hy;refine wpList_plain hgd fun K hK'=> ?_;have hrun:=run_nothing_int xc hown;unfold Oper.wp;simp [execOp,ho,resolve,invoke,builtin,hs,hx,hty,hrun,Result.andThen];exact hK' _ _ (h v w (by simpa using hown) ⟨rfl,rfl,rfl,Nat.le_refl _,fun _ _ _=>rfl⟩)
 | some ad=>
  refine wpList_append_own _ hgd s x 24 ho base 3 i0 (.int .i64 0) 1 8 Try.underlying24 hi hz0 hzs hzb rfl (by decide) v n (zs.map (.int .i64)) hs hown ad ys.length xc (ys.map (.int .i64)) hx (by simp) ?_ ?_ (by unfold maxLen;omega) (by omega) hbase fun v' w' h1 h2 _=>h v' w' (by rw [List.map_append];exact h1) h2
  ·intro j u hj;have hj4:j<ys.length:=by simpa using (List.getElem?_eq_some_iff.1 hj).1
   obtain⟨b,off,he,hb,hcell⟩:=hc (by intro e;rw [e] at hj4;simp at hj4);injection he with he;subst he;have ea:∀j,(⟨b,off,none⟩:Addr).add j=⟨b,off+j,none⟩:=fun j=>by simp [Addr.add]
   have c0:=hcell j hj4;have g0:(ys.map (Value.int .i64))[j]? =some (.int .i64 ys[j]):=by simp [hj4]
   rw [g0] at hj;injection hj with hj;rw [←hj,ea];exact c0
  ·intro u hu;simp only [List.mem_map] at hu;obtain⟨z,_,rfl⟩:=hu
   rfl
end Go.Proofs.Ytapfhhmimkkhnaa
namespace Go.Proofs.Ytapfhhmimkkhnaa
open Go.RowKit Go.Maps
set_option linter.unusedVariables false
set_option maxRecDepth 100000
set_option maxHeartbeats 2000000
def zB_ (p:Prop):Prop:=p
theorem zB_.go {p:Prop} (h:zB_ p):p:=h
def Nn (v:Value):Prop:=∀n c,v= .slice none n c→n=0∧c=0
theorem Nn.own {w:World} {base:Nat} {e:TypeId} {size:Nat} {v:Value} {n:Nat} {xs:List Value} (h:w.ownsRow base e size v n xs):Nn v:=by
 intro m c hv;rcases h.2 with⟨h1,_⟩ | ⟨g,cap,cur,h1,_⟩
 ·rw [h1] at hv;simp at hv;omega
 ·rw [h1] at hv;simp at hv
theorem grown_below {w W w':World} {B g:Nat} (hb:Below B W w) (hg:w.grownBy w' (some g)) (hB:B≤w.heap.size) (h:B≤g):Below B W w':=hb.grown hg hB (fun k hk=>by cases hk;exact h)
theorem eqnil_0 (w:World):(binOp .eql 23 (.slice none 0 0) (.slice none 0 0)).run Try.prog w= .ok (.bool true) w:=by kernel_rfl
theorem eqnil_1 (ad:Addr) (n c:Nat) (w:World):(binOp .eql 23 (.slice (some ad) n c) (.slice none 0 0)).run Try.prog w= .ok (.bool false) w:=by kernel_rfl
theorem eqnil_2 (w:World):(binOp .eql 24 (.slice none 0 0) (.slice none 0 0)).run Try.prog w= .ok (.bool true) w:=by kernel_rfl
theorem eqnil_3 (ad:Addr) (n c:Nat) (w:World):(binOp .eql 24 (.slice (some ad) n c) (.slice none 0 0)).run Try.prog w= .ok (.bool false) w:=by kernel_rfl
theorem cloneE_any (v:Value) (l:List En) (w:World) (hv:ER w v l) (hs:Nn v) (hn:l.length≤1048576):
  Calls Try.prog 67 #[v] w fun e w'=>∃u,e= .returned u∧w'.ownsRow w.heap.size 34 2 u l.length (zE_ l)∧Below w.heap.size w w':=by
 have hv0:=hv;obtain⟨a,cap,rfl,hc⟩:=hv
 cases a with
 | none=>
  have hl:l= []:=by
   by_cases e:l= []
   ·exact e
   ·obtain⟨b,off,h,_⟩:=hc e;cases h
  obtain⟨_,rfl⟩:=hs _ _ rfl;subst hl;clear hc hv0 hs;have EN:=eqnil_0;go_enter Try.func67,Try.ntmps67;go_wp2;go_ret;exact⟨_,rfl,World.ownsRow_nil _ _ _ _,Below.refl _ _⟩
 | some ad=>
  have o0:(w.alloc (.cells #[] 34)).ownsRow w.heap.size 34 2 (.slice (some ⟨w.heap.size,0,none⟩) 0 0) 0 (zE_ []):=World.ownsRow_lit w #[] 0 (Nat.le_refl _) (by simp [maxLen]) (by simp);have hB:=zc_ w (.cells #[] 34);have h1:=hv0.below hB;clear hc hv0 hs;have EN:=eqnil_1 ad l.length cap;go_enter Try.func67,Try.ntmps67;go_wp2_with (at_builtin;refine zJ_ _ rfl _ _ rfl rfl w.heap.size _ 0 [] rfl o0 _ l rfl h1 (by omega) (by simp) ?_;intro v' w' hown hgr;refine zB_.go ?_);have hB2:=grown_below hB hgr (by simp) (Nat.le_refl _);simp only [Nat.zero_add,List.nil_append] at hown;obtain⟨ua,uc,rfl⟩:=zf_ hown;clear hgr o0 h1 hB;unfold zB_;go_wp2;go_ret;exact⟨_,rfl,hown,hB2⟩
theorem cloneI_any (v:Value) (l:List Int) (w:World) (hv:IL w v l) (hs:Nn v) (hn:l.length≤1048576):
  Calls Try.prog 112 #[v] w fun e w'=>∃u,e= .returned u∧w'.ownsRow w.heap.size 3 1 u l.length (l.map (.int .i64))∧Below w.heap.size w w':=by
 have hv0:=hv;obtain⟨a,cap,rfl,hc⟩:=hv
 cases a with
 | none=>
  have hl:l= []:=by
   by_cases e:l= []
   ·exact e
   ·obtain⟨b,off,h,_⟩:=hc e;cases h
  obtain⟨_,rfl⟩:=hs _ _ rfl;subst hl;clear hc hv0 hs;have EN:=eqnil_2;go_enter Try.func112,Try.ntmps112;go_wp2;go_ret;exact⟨_,rfl,World.ownsRow_nil _ _ _ _,Below.refl _ _⟩
 | some ad=>
  have o0:(w.alloc (.cells #[] 3)).ownsRow w.heap.size 3 1 (.slice (some ⟨w.heap.size,0,none⟩) 0 0) 0 (([]:List Int).map (.int .i64)):=World.ownsRow_lit w #[] 0 (Nat.le_refl _) (by simp [maxLen]) (by simp);have hB:=zc_ w (.cells #[] 3);have h1:=hv0.below hB;clear hc hv0 hs;have EN:=eqnil_3 ad l.length cap;go_enter Try.func112,Try.ntmps112;go_wp2_with (at_builtin;refine zw_ _ rfl _ _ rfl rfl w.heap.size _ 0 [] rfl o0 _ l rfl h1 (by omega) (by simp) ?_;intro v' w' hown hgr;refine zB_.go ?_);have hB2:=grown_below hB hgr (by simp) (Nat.le_refl _);simp only [Nat.zero_add,List.nil_append] at hown;obtain⟨ua,uc,rfl⟩:=zf_ hown;clear hgr o0 h1 hB;unfold zB_;go_wp2;go_ret;exact⟨_,rfl,hown,hB2⟩
set_option maxHeartbeats 4000000
theorem copyNode_any (id pe te vo co ro:Int) (vl vv vm:Value) (log:List En) (vs mt:List Int) (w:World) (hl:ER w vl log) (hv:IL w vv vs) (hm:IL w vm mt) (sl:Nn vl) (sv:Nn vv) (sm:Nn vm) (nl:log.length≤1048576) (nv:vs.length≤1048576) (nm:mt.length≤1048576):
  Calls Try.prog 57 #[.agg #[id,pe,te,vo,vl,co,ro,vv,vm]] w fun e w'=>∃ul uv um,e= .returned (.agg #[id,pe,te,vo,ul,co,ro,uv,um])∧OwnN w' w.heap.size ul uv um log vs mt∧Below w.heap.size w w':=by
 obtain⟨W0,hW0,hB,X,Y,hz00⟩:=al2 w [id,pe,te,vo,vl,co,ro,vv,vm] 26 zN 26;have K1:=cloneE_any vl log _ (hl.below hB) sl nl;have K2:=fun W (h:Below w.heap.size w W)=>cloneI_any vv vs W (hv.below h) sv nv;have K3:=fun W (h:Below w.heap.size w W)=>cloneI_any vm mt W (hm.below h) sm nm;obtain⟨la,lc,rfl,hlc⟩:=hl;obtain⟨va,vc,rfl,hvc⟩:=hv;obtain⟨ma,mc,rfl,hmc⟩:=hm;clear hlc hvc hmc sl sv sm;obtain⟨xl,x0,x1,x2,x3,x4,x5,x6,x7,x8⟩:=X.e9;obtain⟨f0,f1,f2,f3,f4,f5,f6,f7,f8⟩:=X.f9;go_enter Try.func57,Try.ntmps57;go_wp2_with fail;rw [←hW0];clear hW0;refine K1.mono ?_;rintro e w1 ⟨u0,rfl,o1,hb⟩;clear K1;have hzb:=hB.size;replace hB:=za_ hB hb;replace X:=X.below hb;replace Y:=Y.below hb;clear xl x0 x1 x2 x3 x4 x5 x6 x7 x8 f0 f1 f2 f3 f4 f5 f6 f7 f8;have g0:=ze_ o1;have l0:=zh_ o1;have hz0:=hb.size;clear hb;obtain⟨ua,uc,rfl⟩:=zf_ o1;obtain⟨xl,x0,x1,x2,x3,x4,x5,x6,x7,x8⟩:=X.e9;obtain⟨f0,f1,f2,f3,f4,f5,f6,f7,f8⟩:=X.f9;obtain⟨W1,hW1⟩:∃W,W=w1.setCell ⟨w.heap.size,4,none⟩ (.slice ua log.length uc):=⟨_,rfl⟩;have hC:Chg (fun k=>k=w.heap.size) w1 W1:=by rw [hW1];exact Chg.setCell (S:=fun k=>k=w.heap.size) (Chg.refl _ _) rfl _
 replace hB:=hB.trans (hC.below (B:=w.heap.size) hB.size (fun k hk=>by omega));have hxb:=X.1;replace Y:=hC.box Y (by omega);replace X:Box W1 w.heap.size [id,pe,te,vo,.slice ua log.length uc,co,ro,.slice va vs.length vc,.slice ma mt.length mc]:=by rw [hW1];exact X.set 4 _ (by simp)
 replace o1:=hC.owns o1 (fun b hb hh=>by have:=g0 b hb;have hh:b=w.heap.size:=hh;omega);have hzz0:w1.heap.size≤W1.heap.size:=by rw [hW1];simp
 have hzy0:W1.heap.size≤w1.heap.size:=by rw [hW1];simp
 clear hC hxb;go_wp2_with fail;rw [←hW1];clear hW1;refine (K2 _ hB).mono ?_;rintro e w2 ⟨u1,rfl,o2,hb⟩;clear K2;have hzb:=hB.size;replace hB:=za_ hB hb;replace X:=X.below hb;replace Y:=Y.below hb;replace o1:=zd_ o1 hb;clear xl x0 x1 x2 x3 x4 x5 x6 x7 x8 f0 f1 f2 f3 f4 f5 f6 f7 f8;have g1:=ze_ o2;have l1:=zh_ o2;have hz1:=hb.size;clear hb;obtain⟨xa,xc,rfl⟩:=zf_ o2;obtain⟨xl,x0,x1,x2,x3,x4,x5,x6,x7,x8⟩:=X.e9;obtain⟨f0,f1,f2,f3,f4,f5,f6,f7,f8⟩:=X.f9;obtain⟨W2,hW2⟩:∃W,W=w2.setCell ⟨w.heap.size,7,none⟩ (.slice xa vs.length xc):=⟨_,rfl⟩;have hC:Chg (fun k=>k=w.heap.size) w2 W2:=by rw [hW2];exact Chg.setCell (S:=fun k=>k=w.heap.size) (Chg.refl _ _) rfl _
 replace hB:=hB.trans (hC.below (B:=w.heap.size) hB.size (fun k hk=>by omega));have hxb:=X.1;replace Y:=hC.box Y (by omega);replace X:Box W2 w.heap.size [id,pe,te,vo,.slice ua log.length uc,co,ro,.slice xa vs.length xc,.slice ma mt.length mc]:=by rw [hW2];exact X.set 7 _ (by simp)
 replace o1:=hC.owns o1 (fun b hb hh=>by have:=g0 b hb;have hh:b=w.heap.size:=hh;omega);replace o2:=hC.owns o2 (fun b hb hh=>by have:=g1 b hb;have hh:b=w.heap.size:=hh;omega);have hzz1:w2.heap.size≤W2.heap.size:=by rw [hW2];simp
 have hzy1:W2.heap.size≤w2.heap.size:=by rw [hW2];simp
 clear hC hxb;go_wp2_with fail;rw [←hW2];clear hW2;refine (K3 _ hB).mono ?_;rintro e w3 ⟨u2,rfl,o3,hb⟩;clear K3;have hzb:=hB.size;replace hB:=za_ hB hb;replace X:=X.below hb;replace Y:=Y.below hb;replace o1:=zd_ o1 hb;replace o2:=zd_ o2 hb;clear xl x0 x1 x2 x3 x4 x5 x6 x7 x8 f0 f1 f2 f3 f4 f5 f6 f7 f8;have g2:=ze_ o3;have l2:=zh_ o3;have hz2:=hb.size;clear hb;obtain⟨ya,yc,rfl⟩:=zf_ o3;obtain⟨xl,x0,x1,x2,x3,x4,x5,x6,x7,x8⟩:=X.e9;obtain⟨f0,f1,f2,f3,f4,f5,f6,f7,f8⟩:=X.f9;have hCa:Chg (fun k=>k=w.heap.size) w3 (w3.setCell ⟨w.heap.size,8,none⟩ (.slice ya mt.length yc)):=Chg.setCell (S:=fun k=>k=w.heap.size) (Chg.refl _ _) rfl _;have Ya:=hCa.box Y (by omega);have hCb:=zo_ (w3.setCell ⟨w.heap.size,8,none⟩ (.slice ya mt.length yc)) (w.heap.size+1) id pe te vo (.slice ua log.length uc) co ro (.slice xa vs.length xc) (.slice ya mt.length yc);have Z:=zp_ Ya id pe te vo (.slice ua log.length uc) co ro (.slice xa vs.length xc) (.slice ya mt.length yc);have hC:Chg (fun k=>k=w.heap.size∨k=w.heap.size+1) w3 _:=(hCa.mono fun k hk=>Or.inl hk).trans (hCb.mono fun k hk=>Or.inr hk);have O:OwnN w3 (w.heap.size+1+1) (.slice ua log.length uc) (.slice xa vs.length xc) (.slice ya mt.length yc) log vs mt:=⟨zg_ o1 (by omega),zg_ o2 (by omega),zg_ o3 (by omega),fun g hg hg'=>by have:=l1 g hg;have:=g2 g hg';omega⟩;have O':=(O.chg hC (fun b hb hh=>by have:=(O.lt b hb).1;have hh:b=w.heap.size∨b=w.heap.size+1:=hh;omega)).mono (show w.heap.size≤w.heap.size+1+1 from by omega);have hBE:=hB.trans (hC.below (B:=w.heap.size) hB.size (fun k hk=>by omega));obtain⟨ql,q0,q1,q2,q3,q4,q5,q6,q7,q8⟩:=Y.e9;obtain⟨h0,h1,h2,h3,h4,h5,h6,h7,h8⟩:=Y.f9;clear hCa hCb hC O o1 o2 o3 hB X Y Ya g0 g1 g2 l0 l1 l2;obtain⟨hzl,t0,t1,t2,t3,t4,t5,t6,t7,t8⟩:=Z.e9;clear Z;unfold put9 at*;go_wp2;exact bodyPost_ret (v:= .agg #[id,pe,te,vo,.slice ua log.length uc,co,ro,.slice xa vs.length xc,.slice ya mt.length yc]) (by simp [results,Try.results57,go_sem,t0,t1,t2,t3,t4,t5,t6,t7,t8]) rfl ⟨_,_,_,rfl,O',hBE⟩
theorem zG_ (id pe te vo co ro:Int) (vl vv vm:Value) (la:Option Addr) (ln lc:Nat) (hvl:vl= .slice la ln lc) (w:World) (sv:∃a n c,vv= .slice a n c) (sm:∃a n c,vm= .slice a n c):
  Calls Try.prog 172 #[.agg #[id,pe,te,vo,vl,co,ro,vv,vm]] w fun e w'=>e= .returned (.agg #[id,pe,te,vo,vl,co,(0:Int),(),()])∧Below w.heap.size w w':=by
 obtain⟨va,vn,vc,rfl⟩:=sv;obtain⟨ma,mn,mc,rfl⟩:=sm;subst hvl;go_enter Try.func172,Try.ntmps172;go_wp2;exact bodyPost_ret (v:= .agg #[id,pe,te,vo,.slice la ln lc,co,(0:Int),(),()]) (by simp [results,Try.results172,go_sem]) rfl ⟨rfl,below2 _ _ _⟩
end Go.Proofs.Ytapfhhmimkkhnaa
