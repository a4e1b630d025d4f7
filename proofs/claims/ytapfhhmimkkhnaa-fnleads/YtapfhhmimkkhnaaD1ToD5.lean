/-
  The cursor that draws: next, pick, wide, text, among, of. What is drawn is some value in its range; nothing but the cursor is written into.
  spec.DrawSumOf, spec.DrawSumOn, laws.numberOf; bytes of a text that may be written.
  The cursor's among and of; spec.DrawVarBytes, spec.DrawTakeVar.
  The cursor's one.
-/
import Derived.Test.YtapfhhmimkkhnaaCToRF1
import Derived.Deep.QuietTactic
import Derived.BigQuiet
import Derived.Deep.Cut
namespace Go.Proofs.Ytapfhhmimkkhnaa
open Go.RowKit
set_option linter.unusedVariables false
set_option maxHeartbeats 2000000
def BL (w:World) (b:Nat) (v:Value) (l:List UInt8):Prop:=
 ∃a cap,v= .slice a l.length cap∧(l≠ []→∃cb off,a=some ⟨cb,off,none⟩∧cb<w.heap.size∧cb<b∧∀i (h:i<l.length),w.cell? ⟨cb,off+i,none⟩=some (.int .u8 (l[i].toNat:Int)))
def Cur (w:World) (b:Nat) (l:List UInt8) (K:Nat):Prop:=
 ∃(v:Value) (k sd:Nat),Box w b [v,k,.int .u64 sd]∧k≤K∧sd<18446744073709551616∧BL w b v l
theorem Box.d3 {w:World} {b:Nat} {v0 v1 v2:Value} (h:Box w b [v0,v1,v2]):b<w.heap.size∧w.cell? ⟨b,0,none⟩=some v0∧w.cell? ⟨b,1,none⟩=some v1∧w.cell? ⟨b,2,none⟩=some v2:=
 ⟨h.1,h.2.1 0 _ rfl,h.2.1 1 _ rfl,h.2.1 2 _ rfl⟩
theorem wrap_u64 (n:Int):IntKind.u64.wrap n=n % 18446744073709551616:=by simp [IntKind.wrap,IntKind.bits,IntKind.signed]
theorem Chg.cell {S:Nat→Prop} {w w':World} (h:Chg S w w') {p:Addr} (hp:p.block<w.heap.size) (hs:¬S p.block):w'.cell? p=w.cell? p:=by
 unfold World.cell?;rw [h.block p.block hp hs]
theorem BL.chg {w w':World} {b:Nat} {v:Value} {l:List UInt8} (h:BL w b v l) (hc:Chg (· =b) w w'):BL w' b v l:=by
 obtain⟨a,cap,rfl,h⟩:=h;refine⟨a,cap,rfl,fun hl=> ?_⟩;obtain⟨cb,off,ha,hcb,hne,hcell⟩:=h hl;exact⟨cb,off,ha,Nat.lt_of_lt_of_le hcb hc.size,hne,fun i hi=>(hc.cell (p:=⟨cb,off+i,none⟩) hcb (Nat.ne_of_lt hne)).trans (hcell i hi)⟩
theorem cur_after {w:World} {b:Nat} {v:Value} {k sd K:Nat} {l:List UInt8} (X:Box w b [v,k,.int .u64 sd]) (hk:k≤K) (hb:BL w b v l) (n1 n2:Nat) (z:Int) (h0:0≤z) (h1:z<18446744073709551616):
  Cur ((((w.drewN n1).setCell ⟨b,1,none⟩ (.int .i64 ((k:Int)+1))).setCell ⟨b,2,none⟩ (.int .u64 z)).drewN n2) b l (K+1)∧Chg (· =b) w ((((w.drewN n1).setCell ⟨b,1,none⟩ (.int .i64 ((k:Int)+1))).setCell ⟨b,2,none⟩ (.int .u64 z)).drewN n2):=by
 have c1:Chg (· =b) w (w.drewN n1):=Chg.of_below (below_drewN (Below.refl _ _) n1);have c2:=(c1.setCell (p:=⟨b,1,none⟩) rfl (.int .i64 ((k:Int)+1))).setCell (p:=⟨b,2,none⟩) rfl (.int .u64 z);have d3:=c2.trans (Chg.of_below (S:=(· =b)) (below_drewN (Below.refl _ ((((w.drewN n1).setCell ⟨b,1,none⟩ (.int .i64 ((k:Int)+1))).setCell ⟨b,2,none⟩ (.int .u64 z)))) n2));obtain⟨m,rfl⟩:=Int.eq_ofNat_of_zero_le h0;have x1:=X.below (below_drewN (Below.refl _ _) n1);have x2:=(x1.set 1 (.int .i64 ((k+1:Nat):Int)) (by simp)).set 2 (.int .u64 (m:Int)) (by simp);have x3:=x2.below (below_drewN (Below.refl _ _) n2);exact⟨⟨v,k+1,m,x3,by omega,by omega,hb.chg d3⟩,d3⟩
theorem and255 (z:Int) (h0:0≤z) (h1:z<18446744073709551616):∃x:Nat,bits BinOp.and IntKind.u64 z 255=(x:Int)∧x≤255:=by
 obtain⟨m,rfl⟩:=Int.eq_ofNat_of_zero_le h0;have:=u64_and_nat m 255 (by omega) (by omega);rw [nat_mask8] at this;exact⟨m % 256,this,by omega⟩
set_option maxRecDepth 100000 in
theorem next_any (b:Nat) (l:List UInt8) (K:Nat) (w:World) (h:Cur w b l K) (hl:l.length≤9223372036854775807) (hK:K≤1000000000):
  Calls Try.prog 109 #[.pointer (some ⟨b,0,none⟩)] w fun e w'=>(∃x:Nat,e= .returned (.int .i64 x)∧x≤255)∧Cur w' b l (K+1)∧Chg (· =b) w w':=by
 obtain⟨v,k,sd,X,hk,hsd,a,cap,rfl,hc⟩:=h;obtain⟨hz,p0,p1,p2⟩:=X.d3;have f1:=X.2.2 1;have f2:=X.2.2 2;by_cases hlt:k<l.length
 ·obtain⟨cb,off,rfl,hcb,hne,hcell⟩:=hc (by intro e;simp [e] at hlt);obtain⟨c,hce⟩:∃c,c=l[k]:=⟨_,rfl⟩;have hc0:w.cell? ⟨cb,off+k,none⟩=some (.int .u8 (c.toNat:Int)):=by rw [hce];exact hcell k hlt
  have hcl:=c.toNat_lt;have HB:Hid (BL w b (.slice (some ⟨cb,off,none⟩) l.length cap) l):=⟨_,cap,rfl,fun _=>⟨cb,off,rfl,hcb,hne,hcell⟩⟩;have HX:Hid (Box w b [.slice (some ⟨cb,off,none⟩) l.length cap,k,.int .u64 sd]):=X;clear hce hc X hcell;go_enter Try.func109,Try.ntmps109;go_wp2_with fail
  go_quiet (fail)
  go_wp2_with fail
  go_quiet (fail)
  go_wp2_with fail
  go_quiet (fail)
  go_wp2;go_ret;exact⟨⟨c.toNat,rfl,by omega⟩,cur_after HX.out hk HB.out _ _ _ (by rw [wrap_u64];omega) (by rw [wrap_u64];omega)⟩
 ·have HX:Hid (Box w b [.slice a l.length cap,k,.int .u64 sd]):=X;have HB:Hid (BL w b (.slice a l.length cap) l):=⟨a,cap,rfl,hc⟩;clear hc X;go_enter Try.func109,Try.ntmps109;go_wp2_with fail
  go_quiet (fail)
  go_wp2_with fail
  go_quiet (fail)
  go_wp2;go_ret;have hz0:=wrap_u64 (IntKind.u64.wrap (IntKind.u64.wrap ((sd:Int)*6364136223846793005))+1442695040888963407);generalize IntKind.u64.wrap (IntKind.u64.wrap (IntKind.u64.wrap ((sd:Int)*6364136223846793005))+1442695040888963407)=z at*;obtain⟨x,hx,hx2⟩:=and255 (z / 1099511627776) (by omega) (by omega);refine⟨⟨x,?_,hx2⟩,cur_after HX.out hk HB.out _ _ _ (by omega) (by omega)⟩;show Ending.returned (Value.int IntKind.i64 (wrap64 (bits BinOp.and IntKind.u64 (z / 1099511627776) 255)))=_;rw [hx];have:wrap64 (x:Int)=x:=by unfold wrap64;omega
  rw [this]
theorem Cur.chg {w w':World} {b:Nat} {l:List UInt8} {K:Nat} (h:Cur w b l K) (hc:Below w.heap.size w w'):Cur w' b l K:=by
 obtain⟨v,k,sd,X,hk,hs,hb⟩:=h;exact⟨v,k,sd,X.below hc,hk,hs,hb.chg (Chg.of_below hc)⟩
theorem Cur.mono {w:World} {b:Nat} {l:List UInt8} {K K':Nat} (h:Cur w b l K) (hk:K≤K'):Cur w b l K':=by
 obtain⟨v,k,sd,X,h1,h2,h3⟩:=h;exact⟨v,k,sd,X,by omega,h2,h3⟩
theorem Cur.lt {w:World} {b:Nat} {l:List UInt8} {K:Nat} (h:Cur w b l K):b<w.heap.size:=by
 obtain⟨v,k,sd,X,_⟩:=h;exact X.1
theorem madeB (n:Nat):(madeCells (Value.int .u8 0).cells (n*1)).toList=bcs (List.replicate n 0):=by
 have h:(Value.int .u8 0).cells=#[.int .u8 0]:=rfl;rw [h];apply List.ext_getElem?;intro i;by_cases hi:i<n
 ·simp [madeCells,hi,Nat.mod_one,bcs]
 ·rw [List.getElem?_eq_none (by simp [madeCells];omega),List.getElem?_eq_none (by simp [bcs];omega)]
theorem bcs_set (m:List UInt8) (j x:Nat) (hx:x<256):(bcs m).set j (.int .u8 (x:Int))=bcs (m.set j (UInt8.ofNat x)):=by
 unfold bcs;rw [List.map_set,UInt8.toNat_ofNat',Nat.mod_eq_of_lt (by omega)]
theorem zx_ {w:World} {b:Nat} {l:List UInt8} {K K':Nat} (h:Cur w b l K) (hk:K≤K') (p:Addr) (hp:b<p.block) (u:Value):Cur (w.setCell p u) b l K':=by
 obtain⟨v,k,sd,X,h1,h2,a,cap,rfl,hc⟩:=h;refine⟨_,k,sd,X.setOther p u (by omega),by omega,h2,a,cap,rfl,fun hl=> ?_⟩;obtain⟨cb,off,ha,hcb,hne,hcell⟩:=hc hl;refine⟨cb,off,ha,by simpa using hcb,hne,fun i hi=> ?_⟩;rw [World.cell?_setCell_other _ _ _ _ (by intro e;rw [e] at hp;simp at hp;omega)];exact hcell i hi
theorem zy_ {S:Nat→Prop} {w w1:World} (h:Chg S w w1) (p:Addr) (hp:w.heap.size≤p.block) (u:Value):Chg S w (w1.setCell p u):=
 ⟨h.os,h.tape,h.output,by simpa using h.size,fun k hk hs=>(Below.heap_setCell w1 p u k (fun e=>by omega)).trans (h.block k hk hs)⟩
set_option maxRecDepth 100000 in
theorem zl_ (b:Nat) (l:List UInt8) (K:Nat) (n:Nat) (w:World) (h:Cur w b l K) (hl:l.length≤9223372036854775807) (hK:K≤100000000) (hn:n≤1000000):
  Calls Try.prog 54 #[.pointer (some ⟨b,0,none⟩),n] w fun e w'=>(∃x:Nat,e= .returned (.int .i64 x)∧(x<n∨x=0))∧Cur w' b l (K+2)∧Chg (· =b) w w':=by
 by_cases h1:n≤1
 ·go_enter Try.func54,Try.ntmps54;go_wp2;go_ret;exact⟨⟨0,rfl,.inr rfl⟩,h.mono (by omega),Chg.refl _ _⟩
 ·by_cases h2:200<n
  ·go_enter Try.func54,Try.ntmps54;go_wp2_with fail;refine (next_any b l K _ h hl (by omega)).mono ?_;rintro e w1 ⟨⟨x,rfl,hx⟩,hc1,hch1⟩;go_wp2_with fail;refine (next_any b l (K+1) _ hc1 hl (by omega)).mono ?_;rintro e w2 ⟨⟨y,rfl,hy⟩,hc2,hch2⟩;go_wp2;go_ret;refine⟨⟨(x*256+y) % n,?_,.inl (Nat.mod_lt _ (by omega))⟩,hc2,hch1.trans hch2⟩;simp
  ·go_enter Try.func54,Try.ntmps54;go_wp2_with fail;refine (next_any b l K _ h hl (by omega)).mono ?_;rintro e w1 ⟨⟨x,rfl,hx⟩,hc1,hch1⟩;go_wp2;go_ret;refine⟨⟨x % n,?_,.inl (Nat.mod_lt _ (by omega))⟩,hc1.mono (by omega),hch1⟩;simp
set_option maxRecDepth 100000 in
theorem text_any (b:Nat) (l:List UInt8) (K:Nat) (n:Nat) (w:World) (h:Cur w b l K) (hl:l.length≤9223372036854775807) (hK:K≤10000000) (hn:n≤10000):
  Calls Try.prog 55 #[.pointer (some ⟨b,0,none⟩),n] w fun e w'=>(∃s:ByteArray,e= .returned (.string s)∧s.size=n)∧Cur w' b l (K+2*n)∧Chg (· =b) w w':=by
 obtain⟨i0,hi,hz0,hz1,hz2⟩:=info_parts Try.info5;have hbw:=h.lt;go_enter Try.func55,Try.ntmps55;go_wp2_with (at_make;refine wpList_make_full _ rfl _ _ 22 rfl w.heap.size 5 i0 _ 1 Try.underlying22 hi hz0 hz1 .i64 .i64 _ _ n rfl rfl rfl rfl (by rw [hz2];omega) (by unfold maxLen;omega) (Nat.le_refl _) ?_;intro w0 hown0 hgr0);rw [madeB] at hown0;have hb0:Below w.heap.size w w0:=(Below.refl _ _).grown hgr0 (Nat.le_refl _) (by simp);have hc0:=h.chg hb0;have hch0:Chg (· =b) w w0:=Chg.of_below hb0;clear hgr0 hi hz0 hz1 hz2 hb0 h
 go_loopw [11] (fun i wr=>∃(j:Nat) (m:List UInt8),j≤n∧m.length=n∧i= .int .i64 j∧wr.ownsRow w.heap.size 5 1 (.slice (some ⟨w.heap.size,0,none⟩) n n) n (bcs m)∧Cur wr b l (K+2*j)∧Chg (· =b) w wr) (fun i _=>n-(intOf i).toNat)
 case atStart=>exact⟨0,List.replicate n 0,by omega,by simp,rfl,hown0,hc0,hch0⟩
 case round=>
  obtain⟨j,m,hj,hm,rfl,hown,hc,hch⟩:=hrel;clear hown0 hc0 hch0;by_cases hlt:j<n
  ·go_wp2_with fail;refine (zl_ b l (K+2*j) 256 _ hc hl (by omega) (by omega)).mono ?_;rintro e w1 ⟨⟨x,rfl,hx⟩,hc1,hch1⟩;have hx256:x<256:=by omega
   have hown1:=hch1.owns hown (fun g hg h=>by simp only [Value.ownBlock,Option.some.injEq] at hg;omega);have d0:w1.cell? ⟨w.heap.size,j,none⟩=some (.int .u8 (m[j].toNat:Int)):=by rw [hown1.cellAt j (by omega)];simp [bcs,show j<m.length from by omega]
   have f0:w1.frozen? ⟨w.heap.size,j,none⟩=false:=hown1.frozenAt _;have hlt1:=(owns_lt hown1).2;have HO:Hid _:=(hown1.stored j (.int .u8 (x:Int))).1;have HS:Hid ((bcs m).set j (.int .u8 (x:Int))=bcs (m.set j (UInt8.ofNat x))):=bcs_set m j x hx256;have HC:Hid (Cur (w1.setCell ⟨w.heap.size,j,none⟩ (.int .u8 (x:Int))) b l (K+2*(j+1))):=zx_ hc1 (by omega) _ hbw _;have HH:Hid (Chg (· =b) w (w1.setCell ⟨w.heap.size,j,none⟩ (.int .u8 (x:Int)))):=zy_ (hch.trans hch1) _ (Nat.le_refl _) _;generalize (m[j].toNat:Int)=old at d0;clear hc hown hch hch1 hown1 hc1;go_wp2;go_roundw
   case rel=>exact⟨j+1,m.set j (UInt8.ofNat x),by omega,by simpa using hm,by go_num,by rw [←HS.out];exact HO.out,HC.out,HH.out⟩
   case measure=>simp [intOf];omega
  ·obtain rfl:j=n:=by omega
   subst hm;have hcv:=conv_back hown;go_wp2;go_ret;exact⟨⟨_,rfl,by show m.toArray.size=_;simp⟩,hc,hch⟩
set_option maxHeartbeats 200000
def YL (w:World) (v:Value) (l:List UInt8):Prop:=
 ∃a cap,v= .slice a l.length cap∧(l≠ []→∃cb off,a=some ⟨cb,off,none⟩∧cb<w.heap.size∧∀i (h:i<l.length),w.cell? ⟨cb,off+i,none⟩=some (.int .u8 (l[i].toNat:Int)))
theorem YL.below {w w':World} {v:Value} {l:List UInt8} (h:YL w v l) (hb:Below w.heap.size w w'):YL w' v l:=by
 obtain⟨a,cap,hv,hc⟩:=h;refine⟨a,cap,hv,fun hl=> ?_⟩;obtain⟨b,off,ha,hbl,hcell⟩:=hc hl;exact⟨b,off,ha,Nat.lt_of_lt_of_le hbl hb.size,fun i hi=>(hb.cell (p:=⟨b,off+i,none⟩) hbl).trans (hcell i hi)⟩
theorem cur_new {w:World} {v:Value} {l:List UInt8} (h:YL w v l):Cur (w.alloc (.cells #[v,(0:Int),.int .u64 0] 87)) w.heap.size l 0:=by
 have hb:=zc_ w (.cells #[v,(0:Int),.int .u64 0] 87);refine⟨v,0,0,Box.new w #[v,(0:Int),.int .u64 0] 87,by omega,by omega,?_⟩;obtain⟨a,cap,rfl,hc⟩:=h;refine⟨a,cap,rfl,fun hl=> ?_⟩;obtain⟨cb,off,ha,hbl,hcell⟩:=hc hl;exact⟨cb,off,ha,Nat.lt_of_lt_of_le hbl hb.size,hbl,fun i hi=>(hb.cell (p:=⟨cb,off+i,none⟩) hbl).trans (hcell i hi)⟩
def Wr (w:World) (g:Nat) (m:List UInt8):Prop:=g<w.heap.size∧∀j (h:j<m.length),w.cell? ⟨g,j,none⟩=some (.int .u8 (m[j].toNat:Int))∧w.frozen? ⟨g,j,none⟩=false
theorem Wr.below {w w':World} {g:Nat} {m:List UInt8} (h:Wr w g m) (hb:Below w.heap.size w w'):Wr w' g m:=
 ⟨Nat.lt_of_lt_of_le h.1 hb.size,fun j hj=>⟨(hb.cell (p:=⟨g,j,none⟩) h.1).trans (h.2 j hj).1,(hb.frozen (p:=⟨g,j,none⟩) h.1).trans (h.2 j hj).2⟩⟩
theorem Wr.set {w:World} {g:Nat} {m:List UInt8} (h:Wr w g m) (i:Nat) (hi:i<m.length) (c:UInt8):Wr (w.setCell ⟨g,i,none⟩ (.int .u8 (c.toNat:Int))) g (m.set i c):=by
 refine⟨by simpa using h.1,fun j hj=>⟨?_,by simpa using (h.2 j (by simpa using hj)).2⟩⟩;by_cases hji:j=i
 ·subst hji;rw [World.cell?_setCell_same _ _ _ (h.2 j hi).1,List.getElem_set_self]
 ·rw [World.cell?_setCell_other _ _ _ _ (fun e=>hji (congrArg Addr.off e).symm),List.getElem_set_ne (by omega)];exact (h.2 j (by simpa using hj)).1
end Go.Proofs.Ytapfhhmimkkhnaa
namespace Go.Proofs.Ytapfhhmimkkhnaa
open Go.RowKit
set_option maxRecDepth 100000
set_option linter.unusedVariables false
set_option maxHeartbeats 1000000
set_option maxRecDepth 100000 in
theorem among_any (b:Nat) (l:List UInt8) (K g:Nat) (xs:List Int) (w:World) (h:Cur w b l K) (hl:l.length≤9223372036854775807) (hK:K≤10000000) (hx:Box w g (xs.map (Value.int .i64))) (hg:g≠b) (h0:0<xs.length) (h1:xs.length≤1000):
  Calls Try.prog 117 #[.pointer (some ⟨b,0,none⟩),.slice (some ⟨g,0,none⟩) xs.length xs.length] w fun e w'=>(∃x,e= .returned (.int .i64 x)∧x∈xs)∧Cur w' b l (K+2)∧Chg (· =b) w w':=by
 go_enter Try.func117,Try.ntmps117;go_wp2_with fail;refine (zl_ b l K xs.length _ h hl (by omega) (by omega)).mono ?_;rintro e w1 ⟨⟨x,rfl,hxl⟩,hc1,hch1⟩;have hlt:x<xs.length:=by omega
 have hx1:=hch1.box hx hg;have d0:=hx1.2.1 x (.int .i64 xs[x]) (by simp [hlt]);have hgl:=hx1.1;obtain⟨y,hy⟩:∃y,y=xs[x]:=⟨_,rfl⟩;have hmem:Hid (y∈xs):=by rw [hy];exact List.getElem_mem _
 rw [←hy] at d0;clear hy hx hx1;go_wp2;go_ret;exact⟨⟨y,rfl,hmem.out⟩,hc1,hch1⟩
set_option maxRecDepth 100000 in
theorem of_any (b:Nat) (l:List UInt8) (K g:Nat) (xs:List ByteArray) (w:World) (h:Cur w b l K) (hl:l.length≤9223372036854775807) (hK:K≤10000000) (hx:Box w g (xs.map Value.string)) (hg:g≠b) (h0:0<xs.length) (h1:xs.length≤1000):
  Calls Try.prog 159 #[.pointer (some ⟨b,0,none⟩),.slice (some ⟨g,0,none⟩) xs.length xs.length] w fun e w'=>(∃x,e= .returned (.string x)∧x∈xs)∧Cur w' b l (K+2)∧Chg (· =b) w w':=by
 go_enter Try.func159,Try.ntmps159;go_wp2_with fail;refine (zl_ b l K xs.length _ h hl (by omega) (by omega)).mono ?_;rintro e w1 ⟨⟨x,rfl,hxl⟩,hc1,hch1⟩;have hlt:x<xs.length:=by omega
 have hx1:=hch1.box hx hg;have d0:=hx1.2.1 x (.string xs[x]) (by simp [hlt]);have hgl:=hx1.1;obtain⟨y,hy⟩:∃y,y=xs[x]:=⟨_,rfl⟩;have hmem:Hid (y∈xs):=by rw [hy];exact List.getElem_mem _
 rw [←hy] at d0;clear hy hx hx1;go_wp2;go_ret;exact⟨⟨y,rfl,hmem.out⟩,hc1,hch1⟩
end Go.Proofs.Ytapfhhmimkkhnaa
namespace Go.Proofs.Ytapfhhmimkkhnaa
open Go.RowKit
set_option linter.unusedVariables false
set_option maxRecDepth 100000
set_option maxHeartbeats 1000000
set_option maxRecDepth 100000 in
theorem one_any (b:Nat) (l:List UInt8) (K n:Nat) (w:World) (h:Cur w b l K) (hl:l.length≤9223372036854775807) (hK:K≤100000000) (hn:n≤1000000):
  Calls Try.prog 138 #[.pointer (some ⟨b,0,none⟩),n] w fun e w'=>(∃x:Bool,e= .returned (.bool x))∧Cur w' b l (K+2)∧Chg (· =b) w w':=by
 go_enter Try.func138,Try.ntmps138;go_wp2_with fail;refine (zl_ b l K n _ h hl hK hn).mono ?_;rintro e w1 ⟨⟨x,rfl,hx⟩,hc1,hch1⟩;go_wp2;go_ret;exact⟨⟨_,rfl⟩,hc1,hch1⟩
theorem zI_ {w w':World} {b B:Nat} {l:List UInt8} {K:Nat} (h:Cur w b l K) (hB:b<B) (hb:Below B w w'):Cur w' b l K:=by
 obtain⟨v,k,sd,X,h1,h2,a,cap,rfl,hc⟩:=h;refine⟨_,k,sd,⟨Nat.lt_of_lt_of_le X.1 hb.size,fun j u hu=>(hb.cell (p:=⟨b,j,none⟩) hB).trans (X.2.1 j u hu),fun j=>(hb.frozen (p:=⟨b,j,none⟩) hB).trans (X.2.2 j)⟩,h1,h2,a,cap,rfl,fun hl=> ?_⟩;obtain⟨cb,off,ha,hcb,hne,hcell⟩:=hc hl;exact⟨cb,off,ha,Nat.lt_of_lt_of_le hcb hb.size,hne,fun i hi=>(hb.cell (p:=⟨cb,off+i,none⟩) (show cb<B by omega)).trans (hcell i hi)⟩
end Go.Proofs.Ytapfhhmimkkhnaa
