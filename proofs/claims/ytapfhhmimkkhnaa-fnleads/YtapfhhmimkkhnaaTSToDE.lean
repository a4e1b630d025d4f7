/-
  Steps in a row: rows of five cells; szClusterStepS, toClusterStepS, eqClusterStepS, markClusterStepS.
  Steps appended to a row of one's own.
  The draw of steps in which a node is chosen: elected.
-/
import Derived.Test.YtapfhhmimkkhnaaNCToPLI
import Derived.Test.YtapfhhmimkkhnaaCToRF1
import Derived.Test.YtapfhhmimkkhnaaRF5ToP1
import Derived.OwnWalk
import Derived.Deep.RegionHeld3
import Derived.Deep.QuietTactic
import Derived.BigQuiet
import Derived.Test.YtapfhhmimkkhnaaN1ToA3
import Derived.Test.YtapfhhmimkkhnaaCWToHM
import Derived.Test.YtapfhhmimkkhnaaDC
import Derived.Test.YtapfhhmimkkhnaaVIToSP
import Derived.Deep.Cut
import Derived.Deep.CutBlock
import Derived.Lib.AppendZeros
namespace Go.Proofs.Ytapfhhmimkkhnaa
open Go.RowKit
set_option linter.unusedVariables false
set_option maxRecDepth 100000
def Sp.zero:Sp:=⟨0,0,0,0,⟨#[]⟩⟩
instance:Inhabited Sp:=⟨Sp.zero⟩
def flT:List Sp→List Value
 | []=> []
 | s::r=> .int .i64 s.ki:: .int .i64 s.no:: .int .i64 s.k:: .int .i64 s.ma:: .string s.d::flT r
theorem flT_length (l:List Sp):(flT l).length=l.length*5:=by
 induction l with
 | nil=>rfl
 | cons x r ih=>simp only [flT,List.length_cons,ih];omega
theorem flT_append (l m:List Sp):flT (l++m)=flT l++flT m:=by
 induction l with
 | nil=>rfl
 | cons x r ih=>simp only [List.cons_append,flT,ih]
theorem flT_get (l:List Sp) (i:Nat) (h:i<l.length):(flT l)[i*5]? =some (.int .i64 l[i].ki)∧(flT l)[i*5+1]? =some (.int .i64 l[i].no)∧(flT l)[i*5+2]? =some (.int .i64 l[i].k)∧(flT l)[i*5+3]? =some (.int .i64 l[i].ma)∧(flT l)[i*5+4]? =some (.string l[i].d):=by
 induction l generalizing i with
 | nil=>simp at h
 | cons x r ih=>
  cases i with
  | zero=>exact⟨rfl,rfl,rfl,rfl,rfl⟩
  | succ i=>
   have:=ih i (by simpa using h);rw [show (i+1)*5=i*5+1+1+1+1+1 from by omega,show i*5+1+1+1+1+1+1=(i*5+1)+1+1+1+1+1 from by omega,show i*5+1+1+1+1+1+2=(i*5+2)+1+1+1+1+1 from by omega,show i*5+1+1+1+1+1+3=(i*5+3)+1+1+1+1+1 from by omega,show i*5+1+1+1+1+1+4=(i*5+4)+1+1+1+1+1 from by omega];simp only [flT,List.getElem?_cons_succ,List.getElem_cons_succ];exact this
theorem flT_zeros (n:Nat):(madeCells (Value.agg #[.int .i64 0,.int .i64 0,.int .i64 0,.int .i64 0,.string ⟨#[]⟩]).cells (n*5)).toList=flT (List.replicate n Sp.zero):=by
 have hcs:(Value.agg #[.int .i64 0,.int .i64 0,.int .i64 0,.int .i64 0,.string ⟨#[]⟩]).cells=#[.int .i64 0,.int .i64 0,.int .i64 0,.int .i64 0,.string ⟨#[]⟩]:=rfl;rw [hcs];apply List.ext_getElem?;intro i;by_cases hi:i<n*5
 ·obtain⟨j,m,hm,rfl⟩:∃j m,m<5∧i=j*5+m:=⟨i / 5,i % 5,by omega,by omega⟩;have hj:j<(List.replicate n Sp.zero).length:=by simp;omega
  obtain⟨g0,g1,g2,g3,g4⟩:=flT_get _ j hj;obtain rfl | rfl | rfl | rfl | rfl:m=0∨m=1∨m=2∨m=3∨m=4:=by omega
  ·rw [Nat.add_zero] at hi ⊢;rw [g0];simp [madeCells,hi,Sp.zero]
  ·rw [g1];simp [madeCells,hi,Sp.zero]
  ·rw [g2];simp [madeCells,hi,Sp.zero]
  ·rw [g3];simp [madeCells,hi,Sp.zero]
  ·rw [g4];simp [madeCells,hi,Sp.zero]
 ·rw [List.getElem?_eq_none (by simp [madeCells];omega),List.getElem?_eq_none (by rw [flT_length];simp;omega)]
def TR (w:World) (v:Value) (l:List Sp):Prop:=
 ∃a cap,v= .slice a l.length cap∧(l≠ []→∃b off,a=some ⟨b,off,none⟩∧b<w.heap.size∧
  ∀i (h:i<l.length),w.cell? ⟨b,off+i*5,none⟩=some (.int .i64 l[i].ki)∧w.cell? ⟨b,off+i*5+1,none⟩=some (.int .i64 l[i].no)∧w.cell? ⟨b,off+i*5+2,none⟩=some (.int .i64 l[i].k)∧w.cell? ⟨b,off+i*5+3,none⟩=some (.int .i64 l[i].ma)∧w.cell? ⟨b,off+i*5+4,none⟩=some (.string l[i].d))
theorem TR.below {w w':World} {v:Value} {l:List Sp} (h:TR w v l) (hb:Below w.heap.size w w'):TR w' v l:=by
 obtain⟨a,cap,hv,hc⟩:=h;refine⟨a,cap,hv,fun hl=> ?_⟩;obtain⟨b,off,ha,hbl,hcell⟩:=hc hl;refine⟨b,off,ha,Nat.lt_of_lt_of_le hbl hb.size,fun i hi=> ?_⟩;obtain⟨c0,c1,c2,c3,c4⟩:=hcell i hi;exact⟨(hb.cell (p:=⟨b,off+i*5,none⟩) hbl).trans c0,(hb.cell (p:=⟨b,off+i*5+1,none⟩) hbl).trans c1,(hb.cell (p:=⟨b,off+i*5+2,none⟩) hbl).trans c2,(hb.cell (p:=⟨b,off+i*5+3,none⟩) hbl).trans c3,(hb.cell (p:=⟨b,off+i*5+4,none⟩) hbl).trans c4⟩
theorem TR.size {w:World} {v:Value} {l:List Sp} (h:TR w v l):∃a cap,v= .slice a l.length cap:=by obtain⟨a,c,h,_⟩:=h;exact⟨a,c,h⟩
theorem TR_of_owns {w:World} {base n:Nat} {e:TypeId} {v:Value} {l:List Sp} (h:w.ownsRow base e 5 v n (flT l)) (hn:n=l.length):TR w v l:=by
 subst hn;have h':=h;obtain⟨hl,h⟩:=h;rcases h with⟨rfl,h0⟩ | ⟨g,cap,cur,rfl,hbg,hh,hcap,hm,hsz,htk⟩
 ·exact⟨none,0,by rw [h0],fun hne=>absurd (List.length_eq_zero_iff.1 h0) hne⟩
 ·refine⟨_,cap,rfl,fun _=>⟨g,0,rfl,(Array.getElem?_eq_some_iff.1 hh).1,fun i hi=> ?_⟩⟩;obtain⟨g0,g1,g2,g3,g4⟩:=flT_get l i hi;rw [Nat.zero_add];exact⟨by rw [h'.cellAt (i*5) (by omega),g0],by rw [h'.cellAt (i*5+1) (by omega),g1],by rw [h'.cellAt (i*5+2) (by omega),g2],by rw [h'.cellAt (i*5+3) (by omega),g3],by rw [h'.cellAt (i*5+4) (by omega),g4]⟩
theorem Try.info154:(Try.prog.info? 154).map (fun i=>(i.zero,i.size,i.bytes))=some (some (.agg #[.int .i64 0,.int .i64 0,.int .i64 0,.int .i64 0,.string ⟨#[]⟩]),5,48):=by kernel_rfl
end Go.Proofs.Ytapfhhmimkkhnaa
namespace Go.Proofs.Ytapfhhmimkkhnaa
open Go.RowKit Go.Maps
set_option linter.unusedVariables false
set_option maxRecDepth 100000
theorem run_nothingT {w:World} {base n:Nat} {v:Value} {xs:List Value} (c:Nat) (h:w.ownsRow base 154 5 v n xs):(Builtin.append_ #[130,130] 130 #[v,.slice none 0 c]).run Try.prog w= .ok v w:=by
 rcases h.2 with⟨rfl,h0⟩ | ⟨g,cap,cur,rfl,hbase,hb,h1,h2,h3,h4⟩
 ·simp [Builtin.append_,run_underlying Try.underlying130,Builtin.lenOf,Builtin.firstCells,Try.sizeOf154]
 ·simp [Builtin.append_,run_underlying Try.underlying130,Builtin.lenOf,Builtin.firstCells,Try.sizeOf154,h1,storeCells]
theorem wpList_append_Ts (w:World) {ops:Array Oper} {rest:List Oper} {o:Oper} {a:Act} {Q:Exit→Act→World→Prop} (hgd:o.guard=none) (s x:Operand)
  (ho:o.op= .call ⟨.builtin .append,#[s,x],#[130,130]⟩) (hty:o.type=130)
  (base:Nat) (v:Value) (n:Nat) (zs:List Sp) (hs:a.eval s=v) (hown:w.ownsRow base 154 5 v n (flT zs))
  (xv:Value) (ys:List Sp) (hx:a.eval x=xv) (hI:TR w xv ys) (hn:n+ys.length≤2000000) (hbase:base≤w.heap.size)
  (h:∀v' w',w'.ownsRow base 154 5 v' (n+ys.length) (flT (zs++ys))→w.grownBy w' v.ownBlock→(v'.ownBlock=v.ownBlock∨v'.ownBlock=some w.heap.size)→wpList Try.prog ops Q rest (a.put o.dst v') w'):wpList Try.prog ops Q (o::rest) a w:=by
 obtain⟨i0,hi,hz0,hzs,hzb⟩:=info_parts Try.info154;obtain⟨xa,xc,rfl,hc⟩:=hI
 cases xa with
 | none=>
  have hy:ys= []:=by
   by_cases e:ys= []
   ·exact e
   ·obtain⟨b,off,h,_⟩:=hc e;cases h
  subst hy;refine wpList_plain hgd fun K hK'=> ?_;have hrun:=run_nothingT xc hown;unfold Oper.wp;simp [execOp,ho,resolve,invoke,builtin,hs,hx,hty,hrun,Result.andThen];exact hK' _ _ (h v w (by simpa using hown) ⟨rfl,rfl,rfl,Nat.le_refl _,fun _ _ _=>rfl⟩ (.inl rfl))
 | some ad=>
  refine wpList_append_own_at _ hgd s x 130 ho base 154 i0 (.agg #[(0:Int),(0:Int),(0:Int),(0:Int),.string ⟨#[]⟩]) 5 48 Try.underlying130 hi hz0 hzs hzb rfl (by decide) v n (flT zs) hs hown ad ys.length xc (flT ys) hx (flT_length ys) ?_ ?_ (by unfold maxLen;omega) (by omega) hbase fun v' w' h1 h2 _ h4=>h v' w' (by rw [flT_append];exact h1) h2 h4
  ·intro j u hj;have hj4:j<ys.length*5:=by rw [←flT_length ys];exact (List.getElem?_eq_some_iff.1 hj).1
   obtain⟨b,off,he,hb,hcell⟩:=hc (by intro e;rw [e] at hj4;simp at hj4);injection he with he;subst he;have ea:∀j,(⟨b,off,none⟩:Addr).add j=⟨b,off+j,none⟩:=fun j=>by simp [Addr.add]
   obtain⟨c0,c1,c2,c3,c4⟩:=hcell (j / 5) (by omega);obtain⟨g0,g1,g2,g3,g4⟩:=flT_get ys (j / 5) (by omega);obtain hm | hm | hm | hm | hm:j % 5=0∨j % 5=1∨j % 5=2∨j % 5=3∨j % 5=4:=by omega
   ·have e:j=j / 5*5:=by omega
    rw [←e] at g0 c0;rw [g0] at hj;injection hj with hj;rw [←hj,ea];exact c0
   ·have e:j=j / 5*5+1:=by omega
    rw [←e] at g1;rw [g1] at hj;injection hj with hj;rw [←hj,ea,show off+j=off+j / 5*5+1 from by omega];exact c1
   ·have e:j=j / 5*5+2:=by omega
    rw [←e] at g2;rw [g2] at hj;injection hj with hj;rw [←hj,ea,show off+j=off+j / 5*5+2 from by omega];exact c2
   ·have e:j=j / 5*5+3:=by omega
    rw [←e] at g3;rw [g3] at hj;injection hj with hj;rw [←hj,ea,show off+j=off+j / 5*5+3 from by omega];exact c3
   ·have e:j=j / 5*5+4:=by omega
    rw [←e] at g4;rw [g4] at hj;injection hj with hj;rw [←hj,ea,show off+j=off+j / 5*5+4 from by omega];exact c4
  ·intro u hu;obtain⟨j,hj,e⟩:=List.getElem_of_mem hu;rw [flT_length] at hj;have hj':(flT ys)[j]? =some u:=List.getElem?_eq_some_iff.2 ⟨by rw [flT_length];exact hj,e⟩;obtain⟨g0,g1,g2,g3,g4⟩:=flT_get ys (j / 5) (by omega);obtain hm | hm | hm | hm | hm:j % 5=0∨j % 5=1∨j % 5=2∨j % 5=3∨j % 5=4:=by omega
   ·rw [show j=j / 5*5 from by omega,g0] at hj';injection hj' with hj';rw [←hj'];rfl
   ·rw [show j=j / 5*5+1 from by omega,g1] at hj';injection hj' with hj';rw [←hj'];rfl
   ·rw [show j=j / 5*5+2 from by omega,g2] at hj';injection hj' with hj';rw [←hj'];rfl
   ·rw [show j=j / 5*5+3 from by omega,g3] at hj';injection hj' with hj';rw [←hj'];rfl
   ·rw [show j=j / 5*5+4 from by omega,g4] at hj';injection hj' with hj';rw [←hj'];rfl
theorem zV_ (w:World) {ops:Array Oper} {rest:List Oper} {o:Oper} {a:Act} {Q:Exit→Act→World→Prop} (hgd:o.guard=none) (s y:Operand)
  (ho:o.op= .call ⟨.builtin .append,#[s,y],#[130,130]⟩) (hty:o.type=130)
  (base:Nat) (v:Value) (n:Nat) (zs:List Sp) (hs:a.eval s=v) (hown:w.ownsRow base 154 5 v n (flT zs))
  (b:Nat) (x:Sp) (hx:a.eval y= .slice (some ⟨b,0,none⟩) 1 1) (hI:Box w b [x.ki,x.no,x.k,x.ma,x.d]) (hn:n+1≤2000000) (hbase:base≤w.heap.size)
  (h:∀v' w',w'.ownsRow base 154 5 v' (n+1) (flT (zs++ [x]))→w.grownBy w' v.ownBlock→(v'.ownBlock=v.ownBlock∨v'.ownBlock=some w.heap.size)→wpList Try.prog ops Q rest (a.put o.dst v') w'):wpList Try.prog ops Q (o::rest) a w:=by
 refine wpList_append_Ts w hgd s y ho hty base v n zs hs hown _ [x] hx ⟨some ⟨b,0,none⟩,1,rfl,fun _=>⟨b,0,rfl,hI.1,fun i hi=> ?_⟩⟩ (by simpa using hn) hbase (by simpa using h);obtain rfl:i=0:=by simp at hi;omega
 exact⟨by simpa using hI.2.1 0 _ rfl,by simpa using hI.2.1 1 _ rfl,by simpa using hI.2.1 2 _ rfl,by simpa using hI.2.1 3 _ rfl,by simpa using hI.2.1 4 _ rfl⟩
set_option maxHeartbeats 8000000
theorem elected_any (b:Nat) (l:List UInt8) (K pe:Nat) (no:Int) (w:World) (h:Cur w b l K) (hl:l.length≤9223372036854775807) (hK:K≤1000000) (hp1:1≤pe) (hp:pe≤5):
  Calls Try.prog 139 #[.pointer (some ⟨b,0,none⟩),pe,no] w fun e w'=>(∃v L,e= .returned v∧w'.ownsRow w.heap.size 154 5 v L.length (flT L)∧L.length≤40∧∀s∈L,s.d.size≤1)∧Cur w' b l (K+40)∧Chg (· =b) w w':=by
 have hbl:=h.lt;obtain⟨W1,hW1⟩:∃W,W=w.alloc (.cells #[(1:Int),no,(0:Int),(0:Int),.string ⟨#[]⟩] 154):=⟨_,rfl⟩;have hB1:Below w.heap.size w W1:=by rw [hW1];exact zc_ _ _
 have oL:W1.ownsRow w.heap.size 154 5 (.slice (some ⟨w.heap.size,0,none⟩) 1 1) 1 (flT [⟨1,no,0,0,⟨#[]⟩⟩]):=by
  rw [hW1];exact World.ownsRow_lit w #[(1:Int),no,(0:Int),(0:Int),.string ⟨#[]⟩] 1 (Nat.le_refl _) (by simp [maxLen]) (by simp)
 have hz1:w.heap.size<W1.heap.size:=by rw [hW1];simp
 have hc:=h.chg hB1;have hch:Chg (· =b) w W1:=Chg.of_below hB1;clear h hB1;have hm:(2:Int)*((pe:Int)-1)=((2*(pe-1):Nat):Int):=by omega
 go_enter Try.func139,Try.ntmps139;go_upto_region 2 with fail;rw [←hW1];clear hW1;generalize hn:2*(pe-1)=n at*;have hn8:n≤8:=by omega
 go_wp2
 go_loopw [7,8] (fun v i wr=>∃(L:List Sp) (j:Nat),wr.ownsRow w.heap.size 154 5 v L.length (flT L)∧L.length≤1+j∧(∀s∈L,s.d.size≤1)∧Cur wr b l (K)∧Chg (· =b) w wr∧i= .int .i64 j∧j≤n∧w.heap.size<wr.heap.size) (fun _ i _=>n-(intOf i).toNat)
 case atStart=>exact⟨_,0,oL,Nat.le_refl _,fun s hs=>by rw [List.mem_singleton.1 hs];show (⟨#[]⟩:ByteArray).size≤1;decide,hc,hch,rfl,Nat.zero_le _,hz1⟩
 case round=>
  clear oL hc hch hz1;obtain⟨L,j,oL,hlen,hL,hc,hch,rfl,hj,hzr⟩:=hrel;obtain⟨va,vc,rfl⟩:=zf_ oL;by_cases hlt:j<n
  ·go_wp2_with (at_builtin;refine zB_.go ?_);unfold zB_;have V:=Box.new wr #[(2:Int),(0:Int),(0:Int),(0:Int),.string ⟨#[]⟩] 154;have hBA:=zc_ wr (.cells #[(2:Int),(0:Int),(0:Int),(0:Int),.string ⟨#[]⟩] 154);have hzA:wr.heap.size<(wr.alloc (.cells #[(2:Int),(0:Int),(0:Int),(0:Int),.string ⟨#[]⟩] 154)).heap.size:=by simp
   replace oL:=zd_ oL hBA;replace hc:=hc.chg hBA;replace hch:=hch.trans (Chg.of_below hBA);refine zV_ _ rfl _ _ rfl rfl w.heap.size _ L.length L rfl oL wr.heap.size ⟨2,0,0,0,⟨#[]⟩⟩ rfl V (by omega) (by omega) ?_;intro v9 w9 o9 hgr9 _;have hC9:=zm_ hgr9;have hz9:=hC9.size;have hB9:Below w.heap.size (wr.alloc (.cells #[(2:Int),(0:Int),(0:Int),(0:Int),.string ⟨#[]⟩] 154)) w9:=hC9.below (by omega) (fun q hq=>ze_ oL q hq);replace hc:=zI_ hc hbl hB9;replace hch:=hch.nextC hC9 (fun q hq=> .inr (ze_ oL q hq));have HL9:∀s∈L++ [(⟨2,0,0,0,⟨#[]⟩⟩:Sp)],s.d.size≤1:=fun s hs=>by
    rcases List.mem_append.1 hs with h | h
    ·exact hL s h
    ·rw [List.mem_singleton.1 h];show (⟨#[]⟩:ByteArray).size≤1;decide
   have hl9:(L++ [(⟨2,0,0,0,⟨#[]⟩⟩:Sp)]).length=L.length+1:=by simp
   rw [←hl9] at o9;generalize hL9:L++ [(⟨2,0,0,0,⟨#[]⟩⟩:Sp)]=L9 at*;have hzN:w.heap.size<w9.heap.size:=by omega
   clear hgr9 hC9 hB9 hBA V hzA oL hL9;go_wp2;go_roundw
   case rel=>exact⟨L9,j+1,o9,by omega,HL9,hc,hch,by go_num,by omega,by omega⟩
   case measure=>simp [intOf];omega
  ·obtain rfl:j=n:=by omega
   clear hlt;have hBs:=zc_ wr (.cells #[.string ⟨#[112]⟩,.string ⟨#[113]⟩] 9);have V:=Box.new wr #[.string ⟨#[112]⟩,.string ⟨#[113]⟩] 9;have hcs:=hc.chg hBs;have hltc:=hc.lt;replace oL:=zd_ oL hBs;replace hch:=hch.trans (Chg.of_below hBs);have hzs:=hBs.size;go_wp2_with fail;refine (of_any b l K wr.heap.size [⟨#[112]⟩,⟨#[113]⟩] _ hcs hl (by omega) V (by omega) (by simp) (by simp)).mono ?_;rintro e w2 ⟨⟨d,rfl,hd⟩,hc1,hch1⟩;have hd1:d.size≤1:=by
    have hd2:d=⟨#[112]⟩∨d=⟨#[113]⟩:=by simpa using hd
    rcases hd2 with rfl | rfl <;>decide
   replace oL:=hch1.owns oL (fun x hx hh=>by have:=ze_ oL x hx;have hh:x=b:=hh;omega);replace hch:=hch.trans hch1;have hz2:=hch1.size;clear hc hcs hBs V hch1 hd;have hc:=hc1;clear hc1;go_wp2_with (at_builtin;refine zB_.go ?_);unfold zB_;have V:=Box.new w2 #[(5:Int),no,(0:Int),(0:Int),d] 154;have hBA:=zc_ w2 (.cells #[(5:Int),no,(0:Int),(0:Int),d] 154);have hzA:w2.heap.size<(w2.alloc (.cells #[(5:Int),no,(0:Int),(0:Int),d] 154)).heap.size:=by simp
   replace oL:=zd_ oL hBA;replace hc:=hc.chg hBA;replace hch:=hch.trans (Chg.of_below hBA);refine zV_ _ rfl _ _ rfl rfl w.heap.size _ L.length L rfl oL w2.heap.size ⟨5,no,0,0,d⟩ rfl V (by omega) (by omega) ?_;intro v9 w9 o9 hgr9 _;have hC9:=zm_ hgr9;have hz9:=hC9.size;have hB9:Below w.heap.size (w2.alloc (.cells #[(5:Int),no,(0:Int),(0:Int),d] 154)) w9:=hC9.below (by omega) (fun q hq=>ze_ oL q hq);replace hc:=zI_ hc hbl hB9;replace hch:=hch.nextC hC9 (fun q hq=> .inr (ze_ oL q hq));have HL9:∀s∈L++ [(⟨5,no,0,0,d⟩:Sp)],s.d.size≤1:=fun s hs=>by
    rcases List.mem_append.1 hs with h | h
    ·exact hL s h
    ·rw [List.mem_singleton.1 h];exact hd1
   have hl9:(L++ [(⟨5,no,0,0,d⟩:Sp)]).length=L.length+1:=by simp
   rw [←hl9] at o9;generalize hL9:L++ [(⟨5,no,0,0,d⟩:Sp)]=L9 at*;have hzN:w.heap.size<w9.heap.size:=by omega
   clear hgr9 hC9 hB9 hBA V hzA oL hL9;have oL:=o9;have hL:=HL9;have hlen9:L9.length≤1+8+1:=by omega
   clear o9 HL9 hlen hl9 hm;obtain⟨vb,vd,rfl⟩:=zf_ oL;go_wp2
   go_loopw [7,9] (fun v i wx=>∃(L:List Sp) (q:Nat),wx.ownsRow w.heap.size 154 5 v L.length (flT L)∧L.length≤1+8+1+q∧(∀s∈L,s.d.size≤1)∧Cur wx b l (K+2+2*q)∧Chg (· =b) w wx∧i= .int .i64 q∧q≤pe∧w.heap.size<wx.heap.size) (fun _ i _=>pe-(intOf i).toNat)
   case atStart=>exact⟨_,0,oL,hlen9,hL,hc,hch,rfl,Nat.zero_le _,by omega⟩
   case round=>
    clear oL hL hc hch hlen9 hz9 hz2 hzs;obtain⟨L,q,oL,hlen,hL,hc,hch,rfl,hq,hzx⟩:=hrel;obtain⟨va,vc,rfl⟩:=zf_ oL;by_cases hlt:q<pe
    ·go_wp2_with fail;refine (one_any b l _ 4 _ hc hl (by omega) (by omega)).mono ?_;rintro e w3 ⟨⟨x,rfl⟩,hc1,hch1⟩;replace oL:=hch1.owns oL (fun x hx hh=>by have:=ze_ oL x hx;have hh:x=b:=hh;omega);replace hch:=hch.trans hch1;have hz3:=hch1.size;clear hc hch1;have hc:=hc1.mono (show _≤K+2+2*(q+1) from by omega);clear hc1
     cases x with
     | true=>
      go_wp2;go_roundw
      case rel=>exact⟨L,q+1,oL,by omega,hL,hc,hch,by go_num,by omega,by omega⟩
      case measure=>simp [intOf];omega
     | false=>
      go_wp2_with (at_builtin;refine zB_.go ?_);unfold zB_;have V:=Box.new w3 #[(6:Int),no,(q:Int),(3:Int),.string ⟨#[]⟩] 154;have hBA:=zc_ w3 (.cells #[(6:Int),no,(q:Int),(3:Int),.string ⟨#[]⟩] 154);have hzA:w3.heap.size<(w3.alloc (.cells #[(6:Int),no,(q:Int),(3:Int),.string ⟨#[]⟩] 154)).heap.size:=by simp
      replace oL:=zd_ oL hBA;replace hc:=hc.chg hBA;replace hch:=hch.trans (Chg.of_below hBA);refine zV_ _ rfl _ _ rfl rfl w.heap.size _ L.length L rfl oL w3.heap.size ⟨6,no,(q:Int),3,⟨#[]⟩⟩ rfl V (by omega) (by omega) ?_;intro v9 w9 o9 hgr9 _;have hC9:=zm_ hgr9;have hz9:=hC9.size;have hB9:Below w.heap.size (w3.alloc (.cells #[(6:Int),no,(q:Int),(3:Int),.string ⟨#[]⟩] 154)) w9:=hC9.below (by omega) (fun q hq=>ze_ oL q hq);replace hc:=zI_ hc hbl hB9;replace hch:=hch.nextC hC9 (fun q hq=> .inr (ze_ oL q hq));have HL9:∀s∈L++ [(⟨6,no,(q:Int),3,⟨#[]⟩⟩:Sp)],s.d.size≤1:=fun s hs=>by
       rcases List.mem_append.1 hs with h | h
       ·exact hL s h
       ·rw [List.mem_singleton.1 h];show (⟨#[]⟩:ByteArray).size≤1;decide
      have hl9:(L++ [(⟨6,no,(q:Int),3,⟨#[]⟩⟩:Sp)]).length=L.length+1:=by simp
      rw [←hl9] at o9;generalize hL9:L++ [(⟨6,no,(q:Int),3,⟨#[]⟩⟩:Sp)]=L9 at*;have hzN:w.heap.size<w9.heap.size:=by omega
      clear hgr9 hC9 hB9 hBA V hzA oL hL9;go_wp2;go_roundw
      case rel=>exact⟨L9,q+1,o9,by omega,HL9,hc,hch,by go_num,by omega,by omega⟩
      case measure=>simp [intOf];omega
    ·obtain rfl:q=pe:=by omega
     clear hlt;obtain⟨m,hmq⟩:∃m:Nat,m=2*q:=⟨_,rfl⟩;have hm2:(2:Int)*(q:Int)=(m:Int):=by omega
     have hm10:m≤10:=by omega
     clear hmq;go_wp2_with fail;refine (zl_ b l _ m _ hc hl (by omega) (by omega)).mono ?_;rintro e w4 ⟨⟨x,rfl,hx⟩,hc1,hch1⟩;replace oL:=hch1.owns oL (fun x hx hh=>by have:=ze_ oL x hx;have hh:x=b:=hh;omega);replace hch:=hch.trans hch1;have hz4:=hch1.size;clear hc hch1 hm2;have hx10:x≤10:=by omega
     have hc:=hc1.mono (show _≤K+40 from by omega);clear hc1 hx;go_wp2
     go_loopw [7,10] (fun v i wy=>∃(L:List Sp) (q:Nat),wy.ownsRow w.heap.size 154 5 v L.length (flT L)∧L.length≤15+(10-q)∧(∀s∈L,s.d.size≤1)∧Cur wy b l (K+40)∧Chg (· =b) w wy∧i= .int .i64 q∧q≤10∧w.heap.size<wy.heap.size) (fun _ i _=>(intOf i).toNat)
     case atStart=>exact⟨_,x,oL,by omega,hL,hc,hch,rfl,hx10,by omega⟩
     case round=>
      clear oL hL hc hch hlen hz4;obtain⟨L,q2,oL,hlen,hL,hc,hch,rfl,hq2,hzy⟩:=hrel;obtain⟨va,vc,rfl⟩:=zf_ oL;by_cases hlt:0<q2
      ·have hlt2:(0:Int)<(q2:Int):=by omega
       go_wp2_with (at_builtin;refine zB_.go ?_);unfold zB_;have V:=Box.new wr #[(2:Int),(0:Int),(0:Int),(0:Int),.string ⟨#[]⟩] 154;have hBA:=zc_ wr (.cells #[(2:Int),(0:Int),(0:Int),(0:Int),.string ⟨#[]⟩] 154);have hzA:wr.heap.size<(wr.alloc (.cells #[(2:Int),(0:Int),(0:Int),(0:Int),.string ⟨#[]⟩] 154)).heap.size:=by simp
       replace oL:=zd_ oL hBA;replace hc:=hc.chg hBA;replace hch:=hch.trans (Chg.of_below hBA);refine zV_ _ rfl _ _ rfl rfl w.heap.size _ L.length L rfl oL wr.heap.size ⟨2,0,0,0,⟨#[]⟩⟩ rfl V (by omega) (by omega) ?_;intro v9 w9 o9 hgr9 _;have hC9:=zm_ hgr9;have hz9:=hC9.size;have hB9:Below w.heap.size (wr.alloc (.cells #[(2:Int),(0:Int),(0:Int),(0:Int),.string ⟨#[]⟩] 154)) w9:=hC9.below (by omega) (fun q hq=>ze_ oL q hq);replace hc:=zI_ hc hbl hB9;replace hch:=hch.nextC hC9 (fun q hq=> .inr (ze_ oL q hq));have HL9:∀s∈L++ [(⟨2,0,0,0,⟨#[]⟩⟩:Sp)],s.d.size≤1:=fun s hs=>by
        rcases List.mem_append.1 hs with h | h
        ·exact hL s h
        ·rw [List.mem_singleton.1 h];show (⟨#[]⟩:ByteArray).size≤1;decide
       have hl9:(L++ [(⟨2,0,0,0,⟨#[]⟩⟩:Sp)]).length=L.length+1:=by simp
       rw [←hl9] at o9;generalize hL9:L++ [(⟨2,0,0,0,⟨#[]⟩⟩:Sp)]=L9 at*;have hzN:w.heap.size<w9.heap.size:=by omega
       clear hgr9 hC9 hB9 hBA V hzA oL hL9;go_wp2;go_roundw
       case rel=>exact⟨L9,q2-1,o9,by omega,HL9,hc,hch,by go_num,by omega,by omega⟩
       case measure=>simp [intOf];omega
      ·obtain rfl:q2=0:=by omega
       go_wp2;go_ret;exact⟨⟨_,L,rfl,oL,by omega,hL⟩,hc,hch⟩
end Go.Proofs.Ytapfhhmimkkhnaa
