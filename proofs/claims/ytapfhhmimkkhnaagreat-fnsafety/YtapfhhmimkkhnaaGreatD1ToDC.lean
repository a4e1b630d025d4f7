/-
  The cursor that draws: next, pick, wide, text, among, of. What is drawn is some value in its range; nothing but the cursor is written into.
  spec.DrawSumOf, spec.DrawSumOn, laws.numberOf; bytes of a text that may be written.
  The cursor's among and of; spec.DrawVarBytes, spec.DrawTakeVar.
  The cursor's one.
  The draw of a step: clusterStep.
-/
import Derived.Test.YtapfhhmimkkhnaaGreatCC3ToPP
import Derived.Deep.CutBlock
namespace Go.Proofs.YtapfhhmimkkhnaaGreat
open Go.RowKit
set_option linter.unusedVariables false
set_option maxHeartbeats 2000000
def BL (w:World) (b:Nat) (v:Value) (l:List UInt8):Prop:=
 ∃a cap,v= .slice a l.length cap∧(l≠ []→∃cb off,a=some ⟨cb,off,none⟩∧cb<w.heap.size∧cb<b∧∀i (h:i<l.length),w.cell? ⟨cb,off+i,none⟩=some (.int .u8 (l[i].toNat:Int)))
def Cur (w:World) (b:Nat) (l:List UInt8) (K:Nat):Prop:=
 ∃(v:Value) (k sd:Nat),Box w b [v,k,.int .u64 sd]∧k≤K∧sd<18446744073709551616∧BL w b v l
theorem Box.d3 {w:World} {b:Nat} {v0 v1 v2:Value} (h:Box w b [v0,v1,v2]):b<w.heap.size∧w.cell? ⟨b,0,none⟩=some v0∧w.cell? ⟨b,1,none⟩=some v1∧w.cell? ⟨b,2,none⟩=some v2:=
 ⟨h.1,h.2.1 0 _ rfl,h.2.1 1 _ rfl,h.2.1 2 _ rfl⟩
theorem uO_ (n:Int):IntKind.u64.wrap n=n % 18446744073709551616:=by simp [IntKind.wrap,IntKind.bits,IntKind.signed]
theorem Chg.cell {S:Nat→Prop} {w w':World} (h:Chg S w w') {p:Addr} (hp:p.block<w.heap.size) (hs:¬S p.block):w'.cell? p=w.cell? p:=by
 unfold World.cell?;rw [h.block p.block hp hs]
theorem BL.chg {w w':World} {b:Nat} {v:Value} {l:List UInt8} (h:BL w b v l) (hc:Chg (· =b) w w'):BL w' b v l:=by
 obtain⟨a,cap,rfl,h⟩:=h;refine⟨a,cap,rfl,fun hl=> ?_⟩;obtain⟨cb,off,ha,hcb,hne,hcell⟩:=h hl;exact⟨cb,off,ha,Nat.lt_of_lt_of_le hcb hc.size,hne,fun i hi=>(hc.cell (p:=⟨cb,off+i,none⟩) hcb (Nat.ne_of_lt hne)).trans (hcell i hi)⟩
theorem tV_ {w:World} {b:Nat} {v:Value} {k sd K:Nat} {l:List UInt8} (X:Box w b [v,k,.int .u64 sd]) (hk:k≤K) (hb:BL w b v l) (n1 n2:Nat) (z:Int) (h0:0≤z) (h1:z<18446744073709551616):
  Cur ((((w.drewN n1).setCell ⟨b,1,none⟩ (.int .i64 ((k:Int)+1))).setCell ⟨b,2,none⟩ (.int .u64 z)).drewN n2) b l (K+1)∧Chg (· =b) w ((((w.drewN n1).setCell ⟨b,1,none⟩ (.int .i64 ((k:Int)+1))).setCell ⟨b,2,none⟩ (.int .u64 z)).drewN n2):=by
 have c1:Chg (· =b) w (w.drewN n1):=Chg.of_below (below_drewN (Below.refl _ _) n1);have c2:=(c1.setCell (p:=⟨b,1,none⟩) rfl (.int .i64 ((k:Int)+1))).setCell (p:=⟨b,2,none⟩) rfl (.int .u64 z);have c3:=c2.trans (Chg.of_below (S:=(· =b)) (below_drewN (Below.refl _ ((((w.drewN n1).setCell ⟨b,1,none⟩ (.int .i64 ((k:Int)+1))).setCell ⟨b,2,none⟩ (.int .u64 z)))) n2));obtain⟨m,rfl⟩:=Int.eq_ofNat_of_zero_le h0;have x1:=X.below (below_drewN (Below.refl _ _) n1);have x2:=(x1.set 1 (.int .i64 ((k+1:Nat):Int)) (by simp)).set 2 (.int .u64 (m:Int)) (by simp);have x3:=x2.below (below_drewN (Below.refl _ _) n2);exact⟨⟨v,k+1,m,x3,by omega,by omega,hb.chg c3⟩,c3⟩
theorem and255 (z:Int) (h0:0≤z) (h1:z<18446744073709551616):∃x:Nat,bits BinOp.and IntKind.u64 z 255=(x:Int)∧x≤255:=by
 obtain⟨m,rfl⟩:=Int.eq_ofNat_of_zero_le h0;have:=u64_and_nat m 255 (by omega) (by omega);rw [nat_mask8] at this;exact⟨m % 256,this,by omega⟩
set_option maxRecDepth 100000 in
theorem tb_ (b:Nat) (l:List UInt8) (K:Nat) (w:World) (h:Cur w b l K) (hl:l.length≤9223372036854775807) (hK:K≤1000000000):
  Calls Tryz.prog 107 #[.pointer (some ⟨b,0,none⟩)] w fun e w'=>(∃x:Nat,e= .returned (.int .i64 x)∧x≤255)∧Cur w' b l (K+1)∧Chg (· =b) w w':=by
 obtain⟨v,k,sd,X,hk,hsd,a,cap,rfl,hc⟩:=h;obtain⟨hz,p0,p1,p2⟩:=X.d3;have f1:=X.2.2 1;have f2:=X.2.2 2;by_cases hlt:k<l.length
 ·obtain⟨cb,off,rfl,hcb,hne,hcell⟩:=hc (by intro e;simp [e] at hlt);obtain⟨c,hce⟩:∃c,c=l[k]:=⟨_,rfl⟩;have hc0:w.cell? ⟨cb,off+k,none⟩=some (.int .u8 (c.toNat:Int)):=by rw [hce];exact hcell k hlt
  have hcl:=c.toNat_lt;have HB:Hid (BL w b (.slice (some ⟨cb,off,none⟩) l.length cap) l):=⟨_,cap,rfl,fun _=>⟨cb,off,rfl,hcb,hne,hcell⟩⟩;have HX:Hid (Box w b [.slice (some ⟨cb,off,none⟩) l.length cap,k,.int .u64 sd]):=X;clear hce hc X hcell;go_enter Tryz.func107,Tryz.ntmps107;go_wp2_with fail
  go_quiet (fail)
  go_wp2_with fail
  go_quiet (fail)
  go_wp2_with fail
  go_quiet (fail)
  go_wp2;go_ret;exact⟨⟨c.toNat,rfl,by omega⟩,tV_ HX.out hk HB.out _ _ _ (by rw [uO_];omega) (by rw [uO_];omega)⟩
 ·have HX:Hid (Box w b [.slice a l.length cap,k,.int .u64 sd]):=X;have HB:Hid (BL w b (.slice a l.length cap) l):=⟨a,cap,rfl,hc⟩;clear hc X;go_enter Tryz.func107,Tryz.ntmps107;go_wp2_with fail
  go_quiet (fail)
  go_wp2_with fail
  go_quiet (fail)
  go_wp2;go_ret;have hz0:=uO_ (IntKind.u64.wrap (IntKind.u64.wrap ((sd:Int)*6364136223846793005))+1442695040888963407);generalize IntKind.u64.wrap (IntKind.u64.wrap (IntKind.u64.wrap ((sd:Int)*6364136223846793005))+1442695040888963407)=z at*;obtain⟨x,hx,hx2⟩:=and255 (z / 1099511627776) (by omega) (by omega);refine⟨⟨x,?_,hx2⟩,tV_ HX.out hk HB.out _ _ _ (by omega) (by omega)⟩;show Ending.returned (Value.int IntKind.i64 (wrap64 (bits BinOp.and IntKind.u64 (z / 1099511627776) 255)))=_;rw [hx];have:wrap64 (x:Int)=x:=by unfold wrap64;omega
  rw [this]
theorem Cur.chg {w w':World} {b:Nat} {l:List UInt8} {K:Nat} (h:Cur w b l K) (hc:Below w.heap.size w w'):Cur w' b l K:=by
 obtain⟨v,k,sd,X,hk,hs,hb⟩:=h;exact⟨v,k,sd,X.below hc,hk,hs,hb.chg (Chg.of_below hc)⟩
theorem Cur.mono {w:World} {b:Nat} {l:List UInt8} {K K':Nat} (h:Cur w b l K) (hk:K≤K'):Cur w b l K':=by
 obtain⟨v,k,sd,X,h1,h2,h3⟩:=h;exact⟨v,k,sd,X,by omega,h2,h3⟩
theorem Cur.lt {w:World} {b:Nat} {l:List UInt8} {K:Nat} (h:Cur w b l K):b<w.heap.size:=by
 obtain⟨v,k,sd,X,_⟩:=h;exact X.1
theorem zX_ {w:World} {b:Nat} {l:List UInt8} {K K':Nat} (h:Cur w b l K) (hk:K≤K') (p:Addr) (hp:b<p.block) (u:Value):Cur (w.setCell p u) b l K':=by
 obtain⟨v,k,sd,X,h1,h2,a,cap,rfl,hc⟩:=h;refine⟨_,k,sd,X.setOther p u (by omega),by omega,h2,a,cap,rfl,fun hl=> ?_⟩;obtain⟨cb,off,ha,hcb,hne,hcell⟩:=hc hl;refine⟨cb,off,ha,by simpa using hcb,hne,fun i hi=> ?_⟩;rw [World.cell?_setCell_other _ _ _ _ (by intro e;rw [e] at hp;simp at hp;omega)];exact hcell i hi
theorem zY_ {S:Nat→Prop} {w w1:World} (h:Chg S w w1) (p:Addr) (hp:w.heap.size≤p.block) (u:Value):Chg S w (w1.setCell p u):=
 ⟨h.os,h.tape,h.output,by simpa using h.size,fun k hk hs=>(Below.heap_setCell w1 p u k (fun e=>by omega)).trans (h.block k hk hs)⟩
set_option maxRecDepth 100000 in
theorem zP_ (b:Nat) (l:List UInt8) (K:Nat) (n:Nat) (w:World) (h:Cur w b l K) (hl:l.length≤9223372036854775807) (hK:K≤100000000) (hn:n≤1000000):
  Calls Tryz.prog 63 #[.pointer (some ⟨b,0,none⟩),n] w fun e w'=>(∃x:Nat,e= .returned (.int .i64 x)∧(x<n∨x=0))∧Cur w' b l (K+2)∧Chg (· =b) w w':=by
 by_cases h1:n≤1
 ·go_enter Tryz.func63,Tryz.ntmps63;go_wp2;go_ret;exact⟨⟨0,rfl,.inr rfl⟩,h.mono (by omega),Chg.refl _ _⟩
 ·by_cases h2:200<n
  ·go_enter Tryz.func63,Tryz.ntmps63;go_wp2_with fail;refine (tb_ b l K _ h hl (by omega)).mono ?_;rintro e w1 ⟨⟨x,rfl,hx⟩,hc1,hch1⟩;go_wp2_with fail;refine (tb_ b l (K+1) _ hc1 hl (by omega)).mono ?_;rintro e w2 ⟨⟨y,rfl,hy⟩,hc2,hch2⟩;go_wp2;go_ret;refine⟨⟨(x*256+y) % n,?_,.inl (Nat.mod_lt _ (by omega))⟩,hc2,hch1.trans hch2⟩;simp
  ·go_enter Tryz.func63,Tryz.ntmps63;go_wp2_with fail;refine (tb_ b l K _ h hl (by omega)).mono ?_;rintro e w1 ⟨⟨x,rfl,hx⟩,hc1,hch1⟩;go_wp2;go_ret;refine⟨⟨x % n,?_,.inl (Nat.mod_lt _ (by omega))⟩,hc1.mono (by omega),hch1⟩;simp
set_option maxHeartbeats 200000
def YL (w:World) (v:Value) (l:List UInt8):Prop:=
 ∃a cap,v= .slice a l.length cap∧(l≠ []→∃cb off,a=some ⟨cb,off,none⟩∧cb<w.heap.size∧∀i (h:i<l.length),w.cell? ⟨cb,off+i,none⟩=some (.int .u8 (l[i].toNat:Int)))
theorem YL.below {w w':World} {v:Value} {l:List UInt8} (h:YL w v l) (hb:Below w.heap.size w w'):YL w' v l:=by
 obtain⟨a,cap,hv,hc⟩:=h;refine⟨a,cap,hv,fun hl=> ?_⟩;obtain⟨b,off,ha,hbl,hcell⟩:=hc hl;exact⟨b,off,ha,Nat.lt_of_lt_of_le hbl hb.size,fun i hi=>(hb.cell (p:=⟨b,off+i,none⟩) hbl).trans (hcell i hi)⟩
theorem cur_new {w:World} {v:Value} {l:List UInt8} (h:YL w v l):Cur (w.alloc (.cells #[v,(0:Int),.int .u64 0] 70)) w.heap.size l 0:=by
 have hb:=zb_ w (.cells #[v,(0:Int),.int .u64 0] 70);refine⟨v,0,0,Box.new w #[v,(0:Int),.int .u64 0] 70,by omega,by omega,?_⟩;obtain⟨a,cap,rfl,hc⟩:=h;refine⟨a,cap,rfl,fun hl=> ?_⟩;obtain⟨cb,off,ha,hbl,hcell⟩:=hc hl;exact⟨cb,off,ha,Nat.lt_of_lt_of_le hbl hb.size,hbl,fun i hi=>(hb.cell (p:=⟨cb,off+i,none⟩) hbl).trans (hcell i hi)⟩
theorem ra_ {w w1 w2:World} (hb:Below w.heap.size w w1) (hc:Chg (· =w.heap.size) w1 w2):Below w.heap.size w w2:=
 hb.trans (hc.below hb.size (fun k hk=>by omega))
def Wr (w:World) (g:Nat) (m:List UInt8):Prop:=g<w.heap.size∧∀j (h:j<m.length),w.cell? ⟨g,j,none⟩=some (.int .u8 (m[j].toNat:Int))∧w.frozen? ⟨g,j,none⟩=false
theorem Wr.below {w w':World} {g:Nat} {m:List UInt8} (h:Wr w g m) (hb:Below w.heap.size w w'):Wr w' g m:=
 ⟨Nat.lt_of_lt_of_le h.1 hb.size,fun j hj=>⟨(hb.cell (p:=⟨g,j,none⟩) h.1).trans (h.2 j hj).1,(hb.frozen (p:=⟨g,j,none⟩) h.1).trans (h.2 j hj).2⟩⟩
theorem Wr.set {w:World} {g:Nat} {m:List UInt8} (h:Wr w g m) (i:Nat) (hi:i<m.length) (c:UInt8):Wr (w.setCell ⟨g,i,none⟩ (.int .u8 (c.toNat:Int))) g (m.set i c):=by
 refine⟨by simpa using h.1,fun j hj=>⟨?_,by simpa using (h.2 j (by simpa using hj)).2⟩⟩;by_cases hji:j=i
 ·subst hji;rw [World.cell?_setCell_same _ _ _ (h.2 j hi).1,List.getElem_set_self]
 ·rw [World.cell?_setCell_other _ _ _ _ (fun e=>hji (congrArg Addr.off e).symm),List.getElem_set_ne (by omega)];exact (h.2 j (by simpa using hj)).1
end Go.Proofs.YtapfhhmimkkhnaaGreat
namespace Go.Proofs.YtapfhhmimkkhnaaGreat
open Go.RowKit
set_option maxRecDepth 100000
set_option linter.unusedVariables false
set_option maxHeartbeats 1000000
set_option maxRecDepth 100000 in
theorem rb_ (b:Nat) (l:List UInt8) (K g:Nat) (xs:List Int) (w:World) (h:Cur w b l K) (hl:l.length≤9223372036854775807) (hK:K≤10000000) (hx:Box w g (xs.map (Value.int .i64))) (hg:g≠b) (h0:0<xs.length) (h1:xs.length≤1000):
  Calls Tryz.prog 30 #[.pointer (some ⟨b,0,none⟩),.slice (some ⟨g,0,none⟩) xs.length xs.length] w fun e w'=>(∃x,e= .returned (.int .i64 x)∧x∈xs)∧Cur w' b l (K+2)∧Chg (· =b) w w':=by
 go_enter Tryz.func30,Tryz.ntmps30;go_wp2_with fail;refine (zP_ b l K xs.length _ h hl (by omega) (by omega)).mono ?_;rintro e w1 ⟨⟨x,rfl,hxl⟩,hc1,hch1⟩;have hlt:x<xs.length:=by omega
 have hx1:=hch1.box hx hg;have d0:=hx1.2.1 x (.int .i64 xs[x]) (by simp [hlt]);have hgl:=hx1.1;obtain⟨y,hy⟩:∃y,y=xs[x]:=⟨_,rfl⟩;have hmem:Hid (y∈xs):=by rw [hy];exact List.getElem_mem _
 rw [←hy] at d0;clear hy hx hx1;go_wp2;go_ret;exact⟨⟨y,rfl,hmem.out⟩,hc1,hch1⟩
set_option maxRecDepth 100000 in
theorem of_any (b:Nat) (l:List UInt8) (K g:Nat) (xs:List ByteArray) (w:World) (h:Cur w b l K) (hl:l.length≤9223372036854775807) (hK:K≤10000000) (hx:Box w g (xs.map Value.string)) (hg:g≠b) (h0:0<xs.length) (h1:xs.length≤1000):
  Calls Tryz.prog 108 #[.pointer (some ⟨b,0,none⟩),.slice (some ⟨g,0,none⟩) xs.length xs.length] w fun e w'=>(∃x,e= .returned (.string x)∧x∈xs)∧Cur w' b l (K+2)∧Chg (· =b) w w':=by
 go_enter Tryz.func108,Tryz.ntmps108;go_wp2_with fail;refine (zP_ b l K xs.length _ h hl (by omega) (by omega)).mono ?_;rintro e w1 ⟨⟨x,rfl,hxl⟩,hc1,hch1⟩;have hlt:x<xs.length:=by omega
 have hx1:=hch1.box hx hg;have d0:=hx1.2.1 x (.string xs[x]) (by simp [hlt]);have hgl:=hx1.1;obtain⟨y,hy⟩:∃y,y=xs[x]:=⟨_,rfl⟩;have hmem:Hid (y∈xs):=by rw [hy];exact List.getElem_mem _
 rw [←hy] at d0;clear hy hx hx1;go_wp2;go_ret;exact⟨⟨y,rfl,hmem.out⟩,hc1,hch1⟩
end Go.Proofs.YtapfhhmimkkhnaaGreat
namespace Go.Proofs.YtapfhhmimkkhnaaGreat
open Go.RowKit
set_option linter.unusedVariables false
set_option maxRecDepth 100000
set_option maxHeartbeats 1000000
set_option maxRecDepth 100000 in
theorem ub_ (b:Nat) (l:List UInt8) (K n:Nat) (w:World) (h:Cur w b l K) (hl:l.length≤9223372036854775807) (hK:K≤100000000) (hn:n≤1000000):
  Calls Tryz.prog 64 #[.pointer (some ⟨b,0,none⟩),n] w fun e w'=>(∃x:Bool,e= .returned (.bool x))∧Cur w' b l (K+2)∧Chg (· =b) w w':=by
 go_enter Tryz.func64,Tryz.ntmps64;go_wp2_with fail;refine (zP_ b l K n _ h hl hK hn).mono ?_;rintro e w1 ⟨⟨x,rfl,hx⟩,hc1,hch1⟩;go_wp2;go_ret;exact⟨⟨_,rfl⟩,hc1,hch1⟩
theorem xV_ {w w':World} {b B:Nat} {l:List UInt8} {K:Nat} (h:Cur w b l K) (hB:b<B) (hb:Below B w w'):Cur w' b l K:=by
 obtain⟨v,k,sd,X,h1,h2,a,cap,rfl,hc⟩:=h;refine⟨_,k,sd,⟨Nat.lt_of_lt_of_le X.1 hb.size,fun j u hu=>(hb.cell (p:=⟨b,j,none⟩) hB).trans (X.2.1 j u hu),fun j=>(hb.frozen (p:=⟨b,j,none⟩) hB).trans (X.2.2 j)⟩,h1,h2,a,cap,rfl,fun hl=> ?_⟩;obtain⟨cb,off,ha,hcb,hne,hcell⟩:=hc hl;exact⟨cb,off,ha,Nat.lt_of_lt_of_le hcb hb.size,hne,fun i hi=>(hb.cell (p:=⟨cb,off+i,none⟩) (show cb<B by omega)).trans (hcell i hi)⟩
end Go.Proofs.YtapfhhmimkkhnaaGreat
namespace Go.Proofs.YtapfhhmimkkhnaaGreat
open Go.RowKit Go.Maps
set_option linter.unusedVariables false
set_option maxRecDepth 100000
set_option maxHeartbeats 8000000
theorem of3 {α:Type} {a b c x:α} (h:x∈ [a,b,c]):x=a∨x=b∨x=c:=by simpa using h
theorem Box.set5 {w:World} {b:Nat} {v0 v1 v2 v3 v4:Value} (h:Box w b [v0,v1,v2,v3,v4]) (u:Value):Box (w.setCell ⟨b,0,none⟩ u) b [u,v1,v2,v3,v4]∧Box (w.setCell ⟨b,2,none⟩ u) b [v0,v1,u,v3,v4]:=⟨h.set 0 u (by simp),h.set 2 u (by simp)⟩
theorem Box.ap {w:World} {b g:Nat} {vs:List Value} (h:Box w b vs) (hg:b≠g) (o:Nat) (u:Value):Box (w.setCell ⟨g,o,none⟩ u) b vs:=(Chg.setCell (S:=fun k=>k=g) (Chg.refl _ _) rfl u).box h hg
theorem up_ (b:Nat) (l:List UInt8) (K pe:Nat) (w:World) (h:Cur w b l K) (hl:l.length≤9223372036854775807) (hK:K≤1000000) (hp:pe≤5):
  Calls Tryz.prog 66 #[.pointer (some ⟨b,0,none⟩),pe] w fun e w'=>(∃s:Sp,e= .returned (.agg #[s.ki,s.no,s.k,s.ma,s.d])∧s.d.size≤1)∧Cur w' b l (K+40)∧Chg (· =b) w w':=by
 have hbl:=h.lt;obtain⟨W0,hW0⟩:∃W,W=w.alloc (.cells #[(0:Int),(0:Int),(0:Int),(0:Int),.string ⟨#[]⟩] 51):=⟨_,rfl⟩;have hB0:Below w.heap.size w W0:=by rw [hW0];exact zb_ _ _
 have R:Box W0 w.heap.size [(0:Int),(0:Int),(0:Int),(0:Int),.string ⟨#[]⟩]:=by rw [hW0];exact Box.new w #[(0:Int),(0:Int),(0:Int),(0:Int),.string ⟨#[]⟩] 51
 have hz0:w.heap.size<W0.heap.size:=by rw [hW0];simp
 have hc:=h.chg hB0;have hch:Chg (· =b) w W0:=Chg.of_below hB0;clear h hB0;go_enter Tryz.func66,Tryz.ntmps66;go_wp2_with fail;rw [←hW0];clear hW0;refine (zP_ b l (K) pe _ hc hl (by omega) (by omega)).mono ?_;rintro e w1 ⟨⟨x1,rfl,hx1⟩,hc1,hch1⟩;replace R:=hch1.box R (by omega);replace hch:=hch.trans hch1;replace hc:=hc1;have hzw1:=hch1.size;clear hc1 hch1;go_wp2_with fail;refine (zP_ b l (K+2) 4 _ hc hl (by omega) (by omega)).mono ?_;rintro e w2 ⟨⟨x2,rfl,hx2⟩,hc1,hch1⟩;replace R:=hch1.box R (by omega);replace hch:=hch.trans hch1;replace hc:=hc1;have hzw2:=hch1.size;clear hc1 hch1;go_wp2_with fail;refine (zP_ b l (K+2+2) 3 _ hc hl (by omega) (by omega)).mono ?_;rintro e w3 ⟨⟨x3,rfl,hx3⟩,hc1,hch1⟩;replace R:=hch1.box R (by omega);replace hch:=hch.trans hch1;replace hc:=hc1;have hzw3:=hch1.size;clear hc1 hch1;have hBs:=zb_ w3 (.cells #[.string ⟨#[120]⟩,.string ⟨#[121]⟩,.string ⟨#[122]⟩] 9);have V:=Box.new w3 #[.string ⟨#[120]⟩,.string ⟨#[121]⟩,.string ⟨#[122]⟩] 9;have hcs:=hc.chg hBs;have hltc:=hc.lt;replace R:=R.below hBs;replace hch:=hch.trans (Chg.of_below hBs);go_wp2_with fail;refine (of_any b l (K+2+2+2) w3.heap.size [⟨#[120]⟩,⟨#[121]⟩,⟨#[122]⟩] _ hcs hl (by omega) V (by omega) (by simp) (by simp)).mono ?_;rintro e w4 ⟨⟨d,rfl,hd⟩,hc1,hch1⟩;have hd1:d.size≤1:=by rcases of3 hd with rfl | rfl | rfl <;>decide
 have hzs:=hBs.size;replace R:=hch1.box R (by omega);replace hch:=hch.trans hch1;replace hc:=hc1;have hzw4:=hch1.size;clear hc1 hch1;clear hBs V hcs hltc hd;have S:=Box.new w4 #[(2:Int),x1,x2,(1+(x3:Int):Int),d] 51;have hBA:=zb_ w4 (.cells #[(2:Int),x1,x2,(1+(x3:Int):Int),d] 51);replace R:=R.below hBA;have hlt4:=hc.lt;replace hc:=hc.chg hBA;replace hch:=hch.trans (Chg.of_below hBA);go_upto_region 2 with fail;obtain⟨W5,hW5⟩:∃W,W=w4.alloc (.cells #[(2:Int),x1,x2,(1+(x3:Int):Int),d] 51):=⟨_,rfl⟩;rw [←hW5] at S R hc hch ⊢;have hz5:w4.heap.size<W5.heap.size:=by rw [hW5];simp
 clear hW5 hBA;have S:Box W5 w4.heap.size [(2:Int),x1,x2,(1+(x3:Int):Int),d]:=S;obtain⟨g5,hg5⟩:∃g5,Hid (w4.heap.size=g5):=⟨_,rfl⟩;rw [hg5.out] at S ⊢;have hg51:w.heap.size<g5:=by have:=hg5.out;omega
 have hg52:b<g5:=by omega
 clear hg5;go_wp2_with fail;refine (zP_ b l (K+2+2+2+2) 20 _ hc hl (by omega) (by omega)).mono ?_;rintro e w6 ⟨⟨x4,rfl,hx4⟩,hc1,hch1⟩;replace R:=hch1.box R (by omega);replace S:=hch1.box S (by omega);replace hch:=hch.trans hch1;replace hc:=hc1;have hzw6:=hch1.size;clear hc1 hch1;go_upto_block 0 with fail
 go_cut [] from 6 (fun wc=>∃(ki no k ma:Int) (d:ByteArray),Box wc g5 [ki,no,k,ma,d]∧Box wc w.heap.size [(0:Int),(0:Int),(0:Int),(0:Int),.string ⟨#[]⟩]∧d.size≤1∧Cur wc b l (K+2+2+2+2+2+2)∧Chg (· =b) w wc)
 case first=>
  have hsl:=S.1;obtain⟨_,s0,s1,s2,s3,s4⟩:=S.c5;have sf0:=S.2.2 0;have sf2:=S.2.2 2;have hc8:=hc.mono (show K+2+2+2+2+2≤K+2+2+2+2+2+2 from by omega);by_cases e0:x4=0
  ·subst e0;clear hx4;have S7:=(S.set5 (.int .i64 1)).1;have R7:=R.ap (show w.heap.size≠g5 from by omega) 0 (.int .i64 1);have hc7:=zX_ hc (show K+2+2+2+2+2≤K+2+2+2+2+2+2 from by omega) ⟨g5,0,none⟩ hg52 (.int .i64 1);have hch7:=zY_ hch ⟨g5,0,none⟩ (by show w.heap.size≤g5;omega) (.int .i64 1);clear S R hc hc8 hch;go_wp2_with fail;go_meet
   case rel=>exact⟨1,_,_,_,_,S7,R7,hd1,hc7,hch7⟩
  by_cases e1:x4=1
  ·subst e1;clear hx4;have S7:=(S.set5 (.int .i64 1)).1;have R7:=R.ap (show w.heap.size≠g5 from by omega) 0 (.int .i64 1);have hc7:=zX_ hc (show K+2+2+2+2+2≤K+2+2+2+2+2+2 from by omega) ⟨g5,0,none⟩ hg52 (.int .i64 1);have hch7:=zY_ hch ⟨g5,0,none⟩ (by show w.heap.size≤g5;omega) (.int .i64 1);clear S R hc hc8 hch;go_wp2_with fail;go_meet
   case rel=>exact⟨1,_,_,_,_,S7,R7,hd1,hc7,hch7⟩
  by_cases e2:x4=2
  ·subst e2;clear hx4;have S7:=(S.set5 (.int .i64 5)).1;have R7:=R.ap (show w.heap.size≠g5 from by omega) 0 (.int .i64 5);have hc7:=zX_ hc (show K+2+2+2+2+2≤K+2+2+2+2+2+2 from by omega) ⟨g5,0,none⟩ hg52 (.int .i64 5);have hch7:=zY_ hch ⟨g5,0,none⟩ (by show w.heap.size≤g5;omega) (.int .i64 5);clear S R hc hc8 hch;go_wp2_with fail;go_meet
   case rel=>exact⟨5,_,_,_,_,S7,R7,hd1,hc7,hch7⟩
  by_cases e3:x4=3
  ·subst e3;clear hx4;have S7:=(S.set5 (.int .i64 5)).1;have R7:=R.ap (show w.heap.size≠g5 from by omega) 0 (.int .i64 5);have hc7:=zX_ hc (show K+2+2+2+2+2≤K+2+2+2+2+2+2 from by omega) ⟨g5,0,none⟩ hg52 (.int .i64 5);have hch7:=zY_ hch ⟨g5,0,none⟩ (by show w.heap.size≤g5;omega) (.int .i64 5);clear S R hc hc8 hch;go_wp2_with fail;go_meet
   case rel=>exact⟨5,_,_,_,_,S7,R7,hd1,hc7,hch7⟩
  by_cases e4:x4=4
  ·subst e4;clear hx4;go_wp2_with fail;have S7:=(S.set5 (.int .i64 6)).1;have R7:=R.ap (show w.heap.size≠g5 from by omega) 0 (.int .i64 6);have hc7:=zX_ hc (Nat.le_refl _) ⟨g5,0,none⟩ hg52 (.int .i64 6);have hch7:=zY_ hch ⟨g5,0,none⟩ (by show w.heap.size≤g5;omega) (.int .i64 6);clear S R hc hc8 hch;refine (zP_ b l _ pe _ hc7 hl (by omega) (by omega)).mono ?_;rintro e w7 ⟨⟨x5,rfl,hx5⟩,hc1,hch1⟩;replace S7:=hch1.box S7 (by omega);replace R7:=hch1.box R7 (by omega);have hch8:=hch7.trans hch1;have S8:=(S7.set5 (.int .i64 (x5:Int))).2;have R8:=R7.ap (show w.heap.size≠g5 from by omega) 2 (.int .i64 (x5:Int));have hc8:=zX_ hc1 (Nat.le_refl _) ⟨g5,2,none⟩ hg52 (.int .i64 (x5:Int));have hch9:=zY_ hch8 ⟨g5,2,none⟩ (by show w.heap.size≤g5;omega) (.int .i64 (x5:Int));obtain⟨hs7,q0,q1,q2,q3,q4⟩:=S7.c5;have qf2:=S7.2.2 2;clear s0 s1 s2 s3 s4 sf0 sf2 S7 R7 hc7 hch7 hc1 hch1 hch8;go_wp2_with fail;go_meet
   case rel=>exact⟨6,_,_,_,_,S8,R8,hd1,hc8,hch9⟩
  by_cases e5:x4=5
  ·subst e5;clear hx4;go_wp2_with fail;have S7:=(S.set5 (.int .i64 6)).1;have R7:=R.ap (show w.heap.size≠g5 from by omega) 0 (.int .i64 6);have hc7:=zX_ hc (Nat.le_refl _) ⟨g5,0,none⟩ hg52 (.int .i64 6);have hch7:=zY_ hch ⟨g5,0,none⟩ (by show w.heap.size≤g5;omega) (.int .i64 6);clear S R hc hc8 hch;refine (zP_ b l _ pe _ hc7 hl (by omega) (by omega)).mono ?_;rintro e w7 ⟨⟨x5,rfl,hx5⟩,hc1,hch1⟩;replace S7:=hch1.box S7 (by omega);replace R7:=hch1.box R7 (by omega);have hch8:=hch7.trans hch1;have S8:=(S7.set5 (.int .i64 (x5:Int))).2;have R8:=R7.ap (show w.heap.size≠g5 from by omega) 2 (.int .i64 (x5:Int));have hc8:=zX_ hc1 (Nat.le_refl _) ⟨g5,2,none⟩ hg52 (.int .i64 (x5:Int));have hch9:=zY_ hch8 ⟨g5,2,none⟩ (by show w.heap.size≤g5;omega) (.int .i64 (x5:Int));obtain⟨hs7,q0,q1,q2,q3,q4⟩:=S7.c5;have qf2:=S7.2.2 2;clear s0 s1 s2 s3 s4 sf0 sf2 S7 R7 hc7 hch7 hc1 hch1 hch8;go_wp2_with fail;go_meet
   case rel=>exact⟨6,_,_,_,_,S8,R8,hd1,hc8,hch9⟩
  by_cases e6:x4=6
  ·subst e6;clear hx4;go_wp2_with fail;have S7:=(S.set5 (.int .i64 6)).1;have R7:=R.ap (show w.heap.size≠g5 from by omega) 0 (.int .i64 6);have hc7:=zX_ hc (Nat.le_refl _) ⟨g5,0,none⟩ hg52 (.int .i64 6);have hch7:=zY_ hch ⟨g5,0,none⟩ (by show w.heap.size≤g5;omega) (.int .i64 6);clear S R hc hc8 hch;refine (zP_ b l _ pe _ hc7 hl (by omega) (by omega)).mono ?_;rintro e w7 ⟨⟨x5,rfl,hx5⟩,hc1,hch1⟩;replace S7:=hch1.box S7 (by omega);replace R7:=hch1.box R7 (by omega);have hch8:=hch7.trans hch1;have S8:=(S7.set5 (.int .i64 (x5:Int))).2;have R8:=R7.ap (show w.heap.size≠g5 from by omega) 2 (.int .i64 (x5:Int));have hc8:=zX_ hc1 (Nat.le_refl _) ⟨g5,2,none⟩ hg52 (.int .i64 (x5:Int));have hch9:=zY_ hch8 ⟨g5,2,none⟩ (by show w.heap.size≤g5;omega) (.int .i64 (x5:Int));obtain⟨hs7,q0,q1,q2,q3,q4⟩:=S7.c5;have qf2:=S7.2.2 2;clear s0 s1 s2 s3 s4 sf0 sf2 S7 R7 hc7 hch7 hc1 hch1 hch8;go_wp2_with fail;go_meet
   case rel=>exact⟨6,_,_,_,_,S8,R8,hd1,hc8,hch9⟩
  by_cases e7:x4=7
  ·subst e7;clear hx4;have hBa:=zb_ w6 (.cells #[(3:Int),(4:Int),(7:Int)] 3);have V:=Box.new w6 #[(3:Int),(4:Int),(7:Int)] 3;have hca:=hc.chg hBa;have hltc:=hc.lt;replace R:=R.below hBa;replace S:=S.below hBa;replace hch:=hch.trans (Chg.of_below hBa);go_wp2_with fail;refine (rb_ b l _ w6.heap.size [3,4,7] _ hca hl (by omega) V (by omega) (by simp) (by simp)).mono ?_;rintro e w7 ⟨⟨x5,rfl,hx5⟩,hc1,hch1⟩;replace S:=hch1.box S (by omega);replace R:=hch1.box R (by omega);replace hch:=hch.trans hch1;have S7:=(S.set5 (.int .i64 x5)).1;have R7:=R.ap (show w.heap.size≠g5 from by omega) 0 (.int .i64 x5);have hc7:=zX_ hc1 (Nat.le_refl _) ⟨g5,0,none⟩ hg52 (.int .i64 x5);have hch7:=zY_ hch ⟨g5,0,none⟩ (by show w.heap.size≤g5;omega) (.int .i64 x5);obtain⟨hs7,q0,q1,q2,q3,q4⟩:=S.c5;have qf0:=S.2.2 0;clear s0 s1 s2 s3 s4 sf0 sf2 S R hc hc8 hch hc1 hch1 hBa V hca;go_wp2_with fail;go_meet
   case rel=>exact⟨x5,_,_,_,_,S7,R7,hd1,hc7,hch7⟩
  have f0:¬(x4:Int)=0:=by omega
  have f1:¬(x4:Int)=1:=by omega
  have f2:¬(x4:Int)=2:=by omega
  have f3:¬(x4:Int)=3:=by omega
  have f4:¬(x4:Int)=4:=by omega
  have f5:¬(x4:Int)=5:=by omega
  have f6:¬(x4:Int)=6:=by omega
  have f7:¬(x4:Int)=7:=by omega
  clear hx4;go_wp2_with fail;go_meet
  case rel=>exact⟨2,_,_,_,_,S,R,hd1,hc8,hch⟩
 case rest=>
  clear S R hc hch hx1 hx2 hx3 hx4 hd1;obtain⟨ki,no,k,ma,d2,S,R,hd1,hc,hch⟩:=hcut;generalize wc=w8 at*;have hz8:=hch.size;have hs8:=S.1;obtain⟨_,s0,s1,s2,s3,s4⟩:=S.c5;have sf2:=S.2.2 2;go_upto_region 16 with fail
  go_cut [49] from 6 (fun s49 wc=>∃(x:Bool) (ki no k ma:Int) (d:ByteArray),s49= .bool x∧Box wc g5 [ki,no,k,ma,d]∧Box wc w.heap.size [(0:Int),(0:Int),(0:Int),(0:Int),.string ⟨#[]⟩]∧d.size≤1∧Cur wc b l (K+2+2+2+2+2+2+2)∧Chg (· =b) w wc)
  case first=>
   by_cases hk2:ki=2
   ·subst hk2;go_wp2_with fail;refine (ub_ b l _ 2 _ hc hl (by omega) (by omega)).mono ?_;rintro e w9 ⟨⟨x6,rfl⟩,hc1,hch1⟩;replace S:=hch1.box S (by omega);replace R:=hch1.box R (by omega);replace hch:=hch.trans hch1;clear s0 s1 s2 s3 s4 sf2 hc hch1;go_wp2_with fail;go_meet
    case rel=>exact⟨x6,_,_,_,_,_,rfl,S,R,hd1,hc1,hch⟩
   ·have hc7:=hc.mono (show K+2+2+2+2+2+2≤K+2+2+2+2+2+2+2 from by omega);clear hc;go_wp2_with fail;go_meet
    case rel=>exact⟨false,_,_,_,_,_,rfl,S,R,hd1,hc7,hch⟩
  case rest=>
   clear S R hc hch hd1 s0 s1 s2 s3 s4 sf2 hs8;obtain⟨x6,ki,no,k,ma,d3,rfl,S,R,hd1,hc,hch⟩:=hcut;generalize wc=w9 at*;have hz9:=hch.size;go_upto_if 49 with fail
   go_cut [] from 6 (fun wc=>∃(ki no k ma:Int) (d:ByteArray),Box wc g5 [ki,no,k,ma,d]∧Box wc w.heap.size [(0:Int),(0:Int),(0:Int),(0:Int),.string ⟨#[]⟩]∧d.size≤1∧Cur wc b l (K+2+2+2+2+2+2+2)∧Chg (· =b) w wc)
   case first=>
    cases x6 with
    | false=>
     go_wp2_with fail;go_meet
     case rel=>exact⟨_,_,_,_,_,S,R,hd1,hc,hch⟩
    | true=>
     have hs9:=S.1;obtain⟨_,s0,s1,s2,s3,s4⟩:=S.c5;have sf2:=S.2.2 2;have S7:=(S.set5 (.int .i64 0)).2;have R7:=R.ap (show w.heap.size≠g5 from by omega) 2 (.int .i64 0);have hc7:=zX_ hc (Nat.le_refl _) ⟨g5,2,none⟩ hg52 (.int .i64 0);have hch7:=zY_ hch ⟨g5,2,none⟩ (by show w.heap.size≤g5;omega) (.int .i64 0);clear S R hc hch;go_wp2_with fail;go_meet
     case rel=>exact⟨_,_,_,_,_,S7,R7,hd1,hc7,hch7⟩
   case rest=>
   clear S R hc hch hd1;obtain⟨ki,no,k,ma,d3,S,R,hd1,hc,hch⟩:=hcut;generalize wc=w10 at*;have hz10:=hch.size;have hs10:=S.1;go_wp2_with fail;refine (ub_ b l _ 60 _ hc hl (by omega) (by omega)).mono ?_;rintro e w11 ⟨⟨x7,rfl⟩,hc1,hch1⟩;replace S:=hch1.box S (by omega);replace R:=hch1.box R (by omega);replace hch:=hch.trans hch1;clear hc hch1 hs10;have hs11:=S.1;go_upto_if 52 with fail
   go_cut [] from 6 (fun wc=>∃(ki no k ma:Int) (d:ByteArray),Box wc g5 [ki,no,k,ma,d]∧Box wc w.heap.size [(0:Int),(0:Int),(0:Int),(0:Int),.string ⟨#[]⟩]∧d.size≤1∧Cur wc b l (K+2+2+2+2+2+2+2+2+2+2)∧Chg (· =b) w wc)
   case first=>
    cases x7 with
    | false=>
     have hc7:=hc1.mono (show K+2+2+2+2+2+2+2+2≤K+2+2+2+2+2+2+2+2+2+2 from by omega);clear hc1;go_wp2_with fail;go_meet
     case rel=>exact⟨_,_,_,_,_,S,R,hd1,hc7,hch⟩
    | true=>
     go_wp2_with fail;refine (zP_ b l _ 9 _ hc1 hl (by omega) (by omega)).mono ?_;rintro e w12 ⟨⟨x8,rfl,hx8⟩,hc2,hch2⟩;replace S:=hch2.box S (by omega);replace R:=hch2.box R (by omega);replace hch:=hch.trans hch2;have S7:=(S.set5 (.int .i64 x8)).1;have R7:=R.ap (show w.heap.size≠g5 from by omega) 0 (.int .i64 x8);have hc7:=zX_ hc2 (Nat.le_refl _) ⟨g5,0,none⟩ hg52 (.int .i64 x8);have hch7:=zY_ hch ⟨g5,0,none⟩ (by show w.heap.size≤g5;omega) (.int .i64 x8);have hs12:=S.1;obtain⟨_,s0,s1,s2,s3,s4⟩:=S.c5;have sf0:=S.2.2 0;clear S R hc1 hc2 hch hch2;go_upto_region 20 with fail;obtain⟨W12,hW12⟩:∃W,W=w12.setCell ⟨g5,0,none⟩ (.int .i64 x8):=⟨_,rfl⟩;rw [←hW12] at S7 R7 hc7 hch7 ⊢;clear hW12 s0 s1 s2 s3 s4 sf0;go_wp2_with fail;refine (zP_ b l _ 70 _ hc7 hl (by omega) (by omega)).mono ?_;rintro e w13 ⟨⟨x9,rfl,hx9⟩,hc2,hch2⟩;replace S7:=hch2.box S7 (by omega);replace R7:=hch2.box R7 (by omega);replace hch7:=hch7.trans hch2;have S8:=(S7.set5 (.int .i64 ((x9:Int)-1))).2;have R8:=R7.ap (show w.heap.size≠g5 from by omega) 2 (.int .i64 ((x9:Int)-1));have hc8:=zX_ hc2 (Nat.le_refl _) ⟨g5,2,none⟩ hg52 (.int .i64 ((x9:Int)-1));have hch8:=zY_ hch7 ⟨g5,2,none⟩ (by show w.heap.size≤g5;omega) (.int .i64 ((x9:Int)-1));obtain⟨_,s0,s1,s2,s3,s4⟩:=S7.c5;have sf2:=S7.2.2 2;have hs13:=S7.1;clear S7 R7 hc7 hc2 hch7 hch2;go_wp2_with fail;go_meet
     case rel=>exact⟨_,_,_,_,_,S8,R8,hd1,hc8,hch8⟩
   case rest=>
    clear S R hc1 hch hd1 hs11;obtain⟨ki,no,k,ma,d4,S,R,hd1,hc,hch⟩:=hcut;generalize wc=w14 at*;have hz14:=hch.size;obtain⟨hs14,s0,s1,s2,s3,s4⟩:=S.c5;obtain⟨hr14,r0,r1,r2,r3,r4⟩:=R.c5;have q0:=R.2.2 0;have q1:=R.2.2 1;have q2:=R.2.2 2;have q3:=R.2.2 3;have q4:=R.2.2 4;obtain⟨WF,hWF⟩:∃W,W=((((w14.setCell ⟨w.heap.size,0,none⟩ (.int .i64 ki)).setCell ⟨w.heap.size,1,none⟩ (.int .i64 no)).setCell ⟨w.heap.size,2,none⟩ (.int .i64 k)).setCell ⟨w.heap.size,3,none⟩ (.int .i64 ma)).setCell ⟨w.heap.size,4,none⟩ (.string d4):=⟨_,rfl⟩;have RF:Box WF w.heap.size [ki,no,k,ma,d4]:=by rw [hWF];exact ((((R.set 0 _ (by simp)).set 1 _ (by simp)).set 2 _ (by simp)).set 3 _ (by simp)).set 4 _ (by simp)
    have hcF:Cur WF b l (K+40):=by
     rw [hWF];exact zX_ (zX_ (zX_ (zX_ (zX_ hc (show _≤K+40 from by omega) _ hbl _) (Nat.le_refl _) _ hbl _) (Nat.le_refl _) _ hbl _) (Nat.le_refl _) _ hbl _) (Nat.le_refl _) _ hbl _
    have hchF:Chg (· =b) w WF:=by
     rw [hWF];exact zY_ (zY_ (zY_ (zY_ (zY_ hch _ (Nat.le_refl _) _) _ (Nat.le_refl _) _) _ (Nat.le_refl _) _) _ (Nat.le_refl _) _) _ (Nat.le_refl _) _
    obtain⟨hrF,t0,t1,t2,t3,t4⟩:=RF.c5;clear S R hc hch RF;go_wp2;rw [←hWF];exact bodyPost_ret (v:= .agg #[ki,no,k,ma,d4]) (by simp [results,Tryz.results66,go_sem,t0,t1,t2,t3,t4]) rfl ⟨⟨⟨ki,no,k,ma,d4⟩,rfl,hd1⟩,hcF,hchF⟩
end Go.Proofs.YtapfhhmimkkhnaaGreat
