/-
  Zero steps appended to a row of one's own.
  The draw of a play: clusterSteps, DrawPlayCluster.
  The draw of a play: DrawPlayCluster.
  The walk of FnMatching.
  HighestTerm: both sides.
  Who leads, plainly.
-/
import Derived.Test.YtapfhhmimkkhnaaGreatDCToDE
import Derived.Test.YtapfhhmimkkhnaaGreatCWToCV
import Derived.Lib.AppendZerosOnto
import Derived.Test.YtapfhhmimkkhnaaGreatOVToLW
import Derived.Deep.Cut
import Derived.Deep.CutRange
import Derived.Deep.CutBlock
import Derived.Test.YtapfhhmimkkhnaaGreatCMDToD5
import Derived.Test.YtapfhhmimkkhnaaGreatNCToCC2
import Derived.Test.YtapfhhmimkkhnaaGreatM3bToCO
import Derived.Test.YtapfhhmimkkhnaaGreatQ3ToQD
namespace Go.Proofs.YtapfhhmimkkhnaaGreat
open Go.RowKit Go.Maps
set_option linter.unusedVariables false
set_option maxRecDepth 100000
set_option maxHeartbeats 2000000
theorem zerosT (k:Nat):(Builtin.zeroCells (Value.agg #[(0:Int),(0:Int),(0:Int),(0:Int),.string ⟨#[]⟩]).cells k).toList=flT (List.replicate k Sp.zero):=by
 rw [←flT_zeros]
 rfl
theorem oneT:∀(L:List Sp),∀u∈flT L,u.oneCell'=true
 | [],_,h=>by cases h
 | s::r,u,h=>by
  simp only [flT,List.mem_cons] at h;rcases h with rfl | rfl | rfl | rfl | rfl | h
  all_goals first | rfl | exact oneT r u h
theorem zeros_own (w:World) (base n:Nat) (v:Value) (L:List Sp) (ho:w.ownsRow base 51 5 v n (flT L)) (hn:n=L.length) (k:Nat) (hk:0<k) (hb:n+k≤2000) (hbase:base≤w.heap.size):
  ∃v' w',(∀ty,(Builtin.append_ #[23,3] ty #[v,k]).run Tryz.prog w= .ok v' w')∧w'.ownsRow base 51 5 v' (n+k) (flT (L++List.replicate k Sp.zero))∧w.grownBy w' v.ownBlock:=by
 obtain⟨i0,hi,hz0,hzs,hzb⟩:=info_parts Tryz.info51;obtain⟨Zs,hZs⟩:∃Zs,Zs=flT (List.replicate k Sp.zero):=⟨_,rfl⟩;have hZl:Zs.length=k*5:=by rw [hZs,flT_length];simp
 have hZc:(Builtin.zeroCells (Value.agg #[(0:Int),(0:Int),(0:Int),(0:Int),.string ⟨#[]⟩]).cells k)=Zs.toArray:=by
  rw [hZs,←zerosT]
 have hfl:flT (L++List.replicate k Sp.zero)=flT L++Zs:=by rw [flT_append,hZs]
 have h1:∀u∈Zs,u.oneCell'=true:=by rw [hZs];exact oneT _
 rw [hfl];have hlen:(flT L++Zs).length=(n+k)*5:=by rw [List.length_append,ho.1,hZl];omega
 clear hZs hfl;have fresh:∀(bs:Option Addr) (old:Nat),old<n+k→(Builtin.firstCells i0.size n (.slice bs n old)).run Tryz.prog w.drew= .ok (flT L).toArray w.drew→
   ∃v' w',(∀ty,(Builtin.append_ #[23,3] ty #[.slice bs n old,k]).run Tryz.prog w= .ok v' w')∧w'.ownsRow base 51 5 v' (n+k) (flT L++Zs)∧∀row,w.grownBy w' row:=by
  intro bs old hlt hold;have hr:=fun ty=>Lib.run_append_grow_zeros w 23 3 ty 51 i0 _ .i64 .i64 Tryz.underlying23 Tryz.underlying3 hi hz0 bs n old (flT L) hold k hk (by rw [hzs];omega) hlt (by omega) (by rw [hzb];omega) (by rw [hzb];exact growslice_fits (by omega) (by omega));rw [hZc] at hr;have hge:=grownCap_ge w (n+k) old 51;have hcm:=grownCap_le_maxLen w (n+k) old 51 (by unfold maxLen;omega);generalize grownCap w (n+k) old 51=C at*;refine⟨_,_,hr,⟨hlen,.inr ⟨w.heap.size,C,_,rfl,hbase,heap_alloc_new w.drew _,hge,hcm,?_,?_⟩⟩,fun row=>⟨rfl,rfl,rfl,by simp,fun j hj _=>heap_alloc_old w.drew _ hj⟩⟩
  ·simp only [Array.size_append,List.size_toArray,size_zeroCells,ho.1,hZl];simp [Value.cells];omega
  ·simp only [Array.toList_append,List.append_assoc];rw [←List.append_assoc,←hlen];exact List.take_left
 rcases ho.2 with⟨rfl,h0⟩ | ⟨g,cap,cur,rfl,hbg,hg,hnc,hcm,hcs,htk⟩
 ·have hL0:L= []:=List.length_eq_zero_iff.1 (by omega);subst hL0;subst h0;obtain⟨v',w',a,b,c⟩:=fresh none 0 (by omega) (by simp [Builtin.firstCells,flT]);exact⟨v',w',a,b,c _⟩
 ·by_cases hroom:n+k≤cap
  ·have hfit:n*5+Zs.length≤cur.size:=by rw [hZl,hcs];omega
   have hst:=run_storeCells_at Tryz.prog g (n*5) 51 Zs 0 cur w hg (by simpa using hfit) h1;simp only [Nat.add_zero] at hst;have hw:IntKind.i64.wrap (k:Int)=k:=by rw [IntKind.wrap_i64];omega
   have hneg:¬((k:Int)<0):=by omega
   have h48:¬(281474976710656<(k:Int)*(i0.bytes:Int)):=by rw [hzb];omega
   have hns:¬(k*i0.size=0):=by rw [hzs];omega
   have hrun:∀ty,(Builtin.append_ #[23,3] ty #[.slice (some ⟨g,0,none⟩) n cap,k]).run Tryz.prog w= .ok (.slice (some ⟨g,0,none⟩) (n+k) cap) (w.setRow g (cur.toList.take (n*5)++Zs++cur.toList.drop (n*5+Zs.length)).toArray):=fun ty=>by
    simp [Builtin.append_,run_underlying Tryz.underlying23,run_underlying Tryz.underlying3,sizeOf,typeInfo,zeroValue,hi,hz0,asInt,asIntOf,hw,hneg,h48,hroom,hzs,Addr.add_lit,hst,hZc];omega
   refine⟨_,_,hrun,⟨hlen,.inr ⟨g,cap,_,rfl,hbg,setRow_heap w g cur _ 51 _ hg,hroom,hcm,?_,?_⟩⟩,⟨rfl,rfl,rfl,by simp,fun j _ hj=>setRow_other w g j _ (fun e=>hj (by simp [Value.ownBlock,e]))⟩⟩
   ·simp only [List.size_toArray,List.length_append,List.length_take,List.length_drop,Array.length_toList];omega
   ·rw [htk,←hlen];exact List.take_left
  ·have hd:=ho.drew;have hold:(Builtin.firstCells i0.size n (.slice (some ⟨g,0,none⟩) n cap)).run Tryz.prog w.drew= .ok (flT L).toArray w.drew:=
    run_firstCells_some (P:=Tryz.prog) w.drew i0.size n ⟨g,0,none⟩ n cap (flT L) (by rw [ho.1,hzs]) (hd.cells (g:=g) rfl)
   obtain⟨v',w',a,b,c⟩:=fresh (some ⟨g,0,none⟩) cap (by omega) hold;exact⟨v',w',a,b,c _⟩
set_option maxHeartbeats 8000000
theorem steps_any (b:Nat) (l:List UInt8) (K pe:Nat) (w:World) (h:Cur w b l K) (hl:l.length≤9223372036854775807) (hK:K≤100000) (hp1:1≤pe) (hp:pe≤5):
  Calls Tryz.prog 31 #[.pointer (some ⟨b,0,none⟩),pe] w fun e w'=>(∃v L,e= .returned v∧w'.ownsRow w.heap.size 51 5 v L.length (flT L)∧L.length≤1000∧∀s∈L,s.d.size≤1)∧Cur w' b l (K+20000)∧Chg (· =b) w w':=by
 have hbl:=h.lt;go_enter Tryz.func31,Tryz.ntmps31;go_wp2_with fail;refine (zO_ b l K 5 _ h hl (by omega) (by omega)).mono ?_;rintro e w1 ⟨⟨n0,rfl,hn0⟩,hc1,hch⟩;have hz1:=hch.size;have hn4:n0≤4:=by omega
 have hc:=hc1.mono (show K+2≤K+2+1000*(4-n0) from by omega);clear h hc1 hn0;go_wp2
 go_loopw [5,6] (fun v i wr=>∃(L:List Sp) (q:Nat),wr.ownsRow w.heap.size 51 5 v L.length (flT L)∧L.length≤60*(4-q)∧(∀s∈L,s.d.size≤1)∧Cur wr b l (K+2+1000*(4-q))∧Chg (· =b) w wr∧i= .int .i64 q∧q≤4∧w.heap.size≤wr.heap.size) (fun _ i _=>(intOf i).toNat)
 case atStart=>exact⟨[],n0,World.ownsRow_nil _ _ _ _,Nat.zero_le _,(fun s hs=>by cases hs),hc,hch,rfl,hn4,hz1⟩
 case round=>
  clear hc hch hz1;obtain⟨L,q,oL,hlen,hL,hc,hch,rfl,hq4,hzr⟩:=hrel;obtain⟨va,vc,rfl⟩:=ze_ oL;by_cases hlt:0<q
  ·have hlt2:(0:Int)<(q:Int):=by omega
   obtain⟨KQ,hKQ⟩:∃KQ,Hid (K+2+1000*(4-q)=KQ):=⟨_,rfl⟩;have hKq:KQ+1000≤K+2+1000*(4-(q-1)):=by have:=hKQ.out;omega
   have hKb:KQ≤K+5000:=by have:=hKQ.out;omega
   rw [hKQ.out] at hc;clear hKQ;go_wp2_with fail;refine (one_any b l _ 3 _ hc hl (by omega) (by omega)).mono ?_;rintro e w2 ⟨⟨x2,rfl⟩,hc1,hch1⟩;replace oL:=hch1.owns oL (fun x hx hh=>by have:=zg_ oL x hx;have hh:x=b:=hh;omega);replace hch:=hch.trans hch1;have hz2:=hch1.size;clear hc hch1;go_upto_if 16 with fail
   go_cut [5] from 10 to 36 (fun s5 wc=>∃(L:List Sp),wc.ownsRow w.heap.size 51 5 s5 L.length (flT L)∧L.length≤60*(4-q)+40∧(∀s∈L,s.d.size≤1)∧Cur wc b l (KQ+2+2+40)∧Chg (· =b) w wc∧w.heap.size≤wc.heap.size)
   case first=>
    cases x2 with
    | true=>
     have hc2:=hc1.mono (show KQ+2≤KQ+2+2+40 from by omega);clear hc1;go_wp2_with fail;go_meet
     case rel=>exact⟨L,oL,by omega,hL,hc2,hch,by omega⟩
    | false=>
     go_wp2_with fail;refine (zO_ b l _ pe _ hc1 hl (by omega) (by omega)).mono ?_;rintro e w3 ⟨⟨x3,rfl,hx3⟩,hc2,hch2⟩;replace oL:=hch2.owns oL (fun x hx hh=>by have:=zg_ oL x hx;have hh:x=b:=hh;omega);replace hch:=hch.trans hch2;have hz3:=hch2.size;clear hc1 hch2 hx3;go_wp2_with fail;refine (elected_any b l _ pe x3 _ hc2 hl (by omega) hp1 hp).mono ?_;rintro e w4 ⟨⟨ev,EL,rfl,oE,hEl,hEd⟩,hc3,hch3⟩;replace oL:=hch3.owns oL (fun x hx hh=>by have:=zg_ oL x hx;have hh:x=b:=hh;omega);replace hch:=hch.trans hch3;have hz4:=hch3.size;clear hc2 hch3;obtain⟨ea,ec,rfl⟩:=ze_ oE;have TE:=TR_of_owns oE rfl;go_wp2_with (at_builtin;refine zs_.go ?_);unfold zs_;refine wpList_append_Ts _ rfl _ _ rfl rfl w.heap.size _ L.length L rfl oL _ EL rfl TE (by omega) (by omega) ?_;intro v9 w9 o9 hgr9 _;have hC9:=zz_ hgr9;have hz9:=hC9.size;have hB9:Below w.heap.size w4 w9:=hC9.below (by omega) (fun q hq=>zg_ oL q hq);have hc9:=cur_low hc3 hbl hB9;have hch9:=hch.nextC hC9 (fun q hq=> .inr (zg_ oL q hq));have HL9:∀s∈L++EL,s.d.size≤1:=fun s hs=>(List.mem_append.1 hs).elim (hL s) (hEd s);have hl9:(L++EL).length=L.length+EL.length:=by simp
     rw [←hl9] at o9;generalize hL9:L++EL=L9 at*;have hlen9:L9.length≤60*(4-q)+40:=by omega
     have hzw:w.heap.size≤w9.heap.size:=by omega
     clear hgr9 hC9 hB9 oL hL9 TE oE hc3 hch hEd hL;go_wp2_with fail;go_meet
     case rel=>exact⟨L9,o9,hlen9,HL9,hc9,hch9,hzw⟩
   case rest=>
    clear oL hc1 hch hL hlen;obtain⟨L,oL,hlen,hL,hc,hch,hzc⟩:=hcut;obtain⟨va,vc,rfl⟩:=ze_ oL;generalize wc=w5 at*;go_wp2_with fail;refine (zO_ b l _ 14 _ hc hl (by omega) (by omega)).mono ?_;rintro e w6 ⟨⟨k0,rfl,hk0⟩,hc1,hch1⟩;replace oL:=hch1.owns oL (fun x hx hh=>by have:=zg_ oL x hx;have hh:x=b:=hh;omega);replace hch:=hch.trans hch1;have hz6:=hch1.size;have hk13:k0≤13:=by omega
    have hc:=hc1.mono (show KQ+2+2+40+2≤KQ+100+40*(13-k0) from by omega);have hlen2:L.length≤60*(4-q)+40+(13-k0):=by omega
    clear hc1 hch1 hk0 hlen;go_wp2
    go_loopw [5,7] (fun v i wx=>∃(L:List Sp) (m:Nat),wx.ownsRow w.heap.size 51 5 v L.length (flT L)∧L.length≤60*(4-q)+40+(13-m)∧(∀s∈L,s.d.size≤1)∧Cur wx b l (KQ+100+40*(13-m))∧Chg (· =b) w wx∧i= .int .i64 m∧m≤13∧w.heap.size≤wx.heap.size) (fun _ i _=>(intOf i).toNat)
    case atStart=>exact⟨L,k0,oL,hlen2,hL,hc,hch,rfl,hk13,by omega⟩
    case round=>
     clear oL hlen2 hL hc hch hz6;obtain⟨L,m,oL,hlen,hL,hc,hch,rfl,hm13,hzx⟩:=hrel;obtain⟨va,vc,rfl⟩:=ze_ oL;by_cases hlt3:0<m
     ·have hlt4:(0:Int)<(m:Int):=by omega
      go_wp2_with fail;refine (clusterStep_any b l _ pe _ hc hl (by omega) hp).mono ?_;rintro e w7 ⟨⟨s,rfl,hs1⟩,hc1,hch1⟩;replace oL:=hch1.owns oL (fun x hx hh=>by have:=zg_ oL x hx;have hh:x=b:=hh;omega);replace hch:=hch.trans hch1;have hz7:=hch1.size;clear hc hch1;have hc:=hc1.mono (show KQ+100+40*(13-m)+40≤KQ+100+40*(13-(m-1)) from by omega);clear hc1;go_wp2_with (at_builtin;refine zs_.go ?_);unfold zs_;have V:=Box.new w7 #[s.ki,s.no,s.k,s.ma,s.d] 51;have hBA:=zb_ w7 (.cells #[s.ki,s.no,s.k,s.ma,s.d] 51);have hzA:w7.heap.size<(w7.alloc (.cells #[s.ki,s.no,s.k,s.ma,s.d] 51)).heap.size:=by simp
      replace oL:=zd_ oL hBA;replace hc:=hc.chg hBA;replace hch:=hch.trans (Chg.of_below hBA);refine zZ_ _ rfl _ _ rfl rfl w.heap.size _ L.length L rfl oL w7.heap.size s rfl V (by omega) (by omega) ?_;intro v9 w9 o9 hgr9 _;have hC9:=zz_ hgr9;have hz9:=hC9.size;have hB9:Below w.heap.size (w7.alloc (.cells #[s.ki,s.no,s.k,s.ma,s.d] 51)) w9:=hC9.below (by omega) (fun q hq=>zg_ oL q hq);replace hc:=cur_low hc hbl hB9;replace hch:=hch.nextC hC9 (fun q hq=> .inr (zg_ oL q hq));have HL9:∀x∈L++ [s],x.d.size≤1:=fun x hx=>by
       rcases List.mem_append.1 hx with h | h
       ·exact hL x h
       ·rw [List.mem_singleton.1 h];exact hs1
      have hl9:(L++ [s]).length=L.length+1:=by simp
      rw [←hl9] at o9;generalize hL9:L++ [s]=L9 at*;have hlen9:L9.length≤60*(4-q)+40+(13-(m-1)):=by omega
      have hzN:w.heap.size≤w9.heap.size:=by omega
      clear hgr9 hC9 hB9 hBA V hzA oL hL9 hL;go_wp2;go_roundw
      case rel=>exact⟨L9,m-1,o9,hlen9,HL9,hc,hch,by go_num,by omega,hzN⟩
      case measure=>simp [intOf];omega
     ·obtain rfl:m=0:=by omega
      have hc2:=hc.mono (show KQ+100+40*(13-0)≤K+2+1000*(4-(q-1)) from by omega);clear hc;go_wp2;go_roundw
      case rel=>
       exact⟨L,q-1,oL,by omega,hL,hc2,hch,by go_num,by omega,hzx⟩
      case measure=>simp [intOf];omega
  ·obtain rfl:q=0:=by omega
   clear hlt;have hc:=hc.mono (show K+2+1000*(4-0)≤K+5000 from by omega);go_wp2_with fail;refine (one_any b l _ 40 _ hc hl (by omega) (by omega)).mono ?_;rintro e w2 ⟨⟨x2,rfl⟩,hc1,hch1⟩;replace oL:=hch1.owns oL (fun x hx hh=>by have:=zg_ oL x hx;have hh:x=b:=hh;omega);replace hch:=hch.trans hch1;have hz2:=hch1.size;clear hc hch1
   cases x2 with
   | false=>
    have hc2:=hc1.mono (show K+5000+2≤K+20000 from by omega);clear hc1;go_wp2;go_ret;exact⟨⟨_,L,rfl,oL,by omega,hL⟩,hc2,hch⟩
   | true=>
    go_wp2_with fail;refine (zO_ b l _ 2 _ hc1 hl (by omega) (by omega)).mono ?_;rintro e w3 ⟨⟨x3,rfl,hx3⟩,hc2,hch2⟩;replace oL:=hch2.owns oL (fun x hx hh=>by have:=zg_ oL x hx;have hh:x=b:=hh;omega);replace hch:=hch.trans hch2;have hz3:=hch2.size;clear hc1 hch2;have hc3:=hc2.mono (show K+5000+2+2≤K+20000 from by omega);clear hc2;obtain⟨kz,hkz⟩:∃kz:Nat,kz=200-L.length % 200+x3:=⟨_,rfl⟩;have hk0:0<kz:=by omega
    have hk1:kz≤202:=by omega
    have hk2:((200-L.length % 200:Nat):Int)+(x3:Int)=(kz:Int):=by omega
    have hk3:(200:Int)-(L.length:Int) % 200=((200-L.length % 200:Nat):Int):=by omega
    have hx31:x3≤1:=by omega
    obtain⟨v9,w9,hr9,o9,hgr9⟩:=zeros_own w3 w.heap.size L.length _ L oL rfl kz hk0 (by omega) (by omega);have hC9:=zz_ hgr9;have hz9:=hC9.size;have hB9:Below w.heap.size w3 w9:=hC9.below (by omega) (fun q hq=>zg_ oL q hq);have hc9:=cur_low hc3 hbl hB9;have hch9:=hch.nextC hC9 (fun q hq=> .inr (zg_ oL q hq));have HL9:∀s∈L++List.replicate kz Sp.zero,s.d.size≤1:=fun s hs=>by
     rcases List.mem_append.1 hs with h | h
     ·exact hL s h
     ·rw [List.eq_of_mem_replicate h];decide
    have hl9:(L++List.replicate kz Sp.zero).length=L.length+kz:=by simp
    rw [←hl9] at o9;generalize hL9:L++List.replicate kz Sp.zero=L9 at*;have hlen9:L9.length≤1000:=by omega
    have HR9:Hid _:=hr9;clear hgr9 hC9 hB9 oL hL9 hc3 hch hL hkz hx3 hr9;go_wp2_with (at_builtin;refine zs_.go ?_);unfold zs_
    first | rw [hk2] | skip
    refine Lib.wpList_append_run _ rfl _ _ _ _ rfl _ _ rfl rfl _ _ (HR9.out _) ?_;clear HR9 hk2;go_wp2;go_ret;exact⟨⟨_,L9,rfl,o9,hlen9,HL9⟩,hc9,hch9⟩
theorem drawPC_any (v:Value) (l:List UInt8) (w:World) (h:YL w v l) (hl:l.length≤9223372036854775807):
  Calls Tryz.prog 8 #[v] w fun e w'=>(∃(pe:Int) (sv:Value) (L:List Sp),e= .returned (.tuple #[pe,sv])∧w'.ownsRow w.heap.size 51 5 sv L.length (flT L)∧L.length≤1000∧∀s∈L,s.d.size≤1)∧Below w.heap.size w w':=by
 obtain⟨a0,c0,hv⟩:∃a c,v= .slice a l.length c:=by obtain⟨a,c,h1,_⟩:=h;exact⟨a,c,h1⟩
 subst hv;have hc:=cur_new h;obtain⟨W0,hW0⟩:∃W,W=w.alloc (.cells #[.slice a0 l.length c0,(0:Int),.int .u64 0] 70):=⟨_,rfl⟩;have hB:Below w.heap.size w W0:=by rw [hW0];exact zb_ _ _
 have hz0:w.heap.size<W0.heap.size:=by rw [hW0];simp
 rw [←hW0] at hc;go_enter Tryz.func8,Tryz.ntmps8;go_upto_region 2 with fail;rw [←hW0];clear hW0 h;have V:=Box.new W0 #[(1:Int),(2:Int),(3:Int),(3:Int),(3:Int),(4:Int),(5:Int)] 3;have hBA:=zb_ W0 (.cells #[(1:Int),(2:Int),(3:Int),(3:Int),(3:Int),(4:Int),(5:Int)] 3);have hzA:W0.heap.size<(W0.alloc (.cells #[(1:Int),(2:Int),(3:Int),(3:Int),(3:Int),(4:Int),(5:Int)] 3)).heap.size:=by simp
 replace hc:=hc.chg hBA;have hB1:=za_ hB hBA;go_wp2_with fail;refine (among_any w.heap.size l 0 W0.heap.size [1,2,3,3,3,4,5] _ hc hl (by omega) V (by omega) (by simp) (by simp)).mono ?_;rintro e w2 ⟨⟨x,rfl,hx⟩,hc1,hch1⟩;have hx5:1≤x∧x≤5:=by simp at hx;omega
 obtain⟨pe,rfl⟩:=Int.eq_ofNat_of_zero_le (show 0≤x from by omega);have hB2:=below_cur hB1 hch1;have hz2:=hch1.size;clear hc hch1 hB hB1 hBA V hx;go_wp2_with fail;refine (steps_any w.heap.size l _ pe _ hc1 hl (by omega) (by omega) (by omega)).mono ?_;rintro e w3 ⟨⟨sv,L,rfl,oL,hlen,hd⟩,hc2,hch2⟩;have hB3:=below_cur hB2 hch2;replace oL:=zf_ oL (show w.heap.size≤w2.heap.size from by omega);obtain⟨sa,sc,rfl⟩:=ze_ oL;clear hc1 hc2 hch2 hB2;go_wp2;go_ret2;exact⟨⟨_,_,L,rfl,oL,hlen,hd⟩,hB3⟩
set_option maxHeartbeats 200000
theorem plR_pf {p:Int} {l:List Sp} (h:plOk p l=true):1≤p∧p≤7∧PF p.toNat (plR true p.toNat l):=by
 have hp:1≤p∧p≤7:=by
  unfold plOk at h;simp only [Bool.and_eq_true] at h;simpa [inB] using h.1
 refine⟨hp.1,hp.2,?_⟩;show PF p.toNat (if true=true then plGo (zG_ p.toNat) l else⟨[],[],[]⟩);rw [if_pos rfl];exact (newPF p.toNat (by omega) (by omega)).go l
theorem drawn_short {L:List Sp} (h:∀s∈L,s.d.size≤1):∀i (hi:i<L.length),L[i].d.size≤1048576:=fun i hi=>by have:=h L[i] (List.getElem_mem hi);omega
theorem hiT_at (N:List Nv) (k:Nat) (h:k<N.length):(N.map Nv.n).getD k Nd.zero=N[k].n:=by simp [List.getD,h]
def ltP (x y:Ld):Prop:=x.t<y.t∨(x.t=y.t∧x.n<y.n)
theorem lex_ext:∀ {a b:List Ld},a.Pairwise ltP→b.Pairwise ltP→(∀x,x∈a↔x∈b)→a=b
 | [],[],_,_,_=>rfl
 | [],y::r,_,_,h=>by have:=(h y).2 (by simp);simp at this
 | x::r,[],_,_,h=>by have:=(h x).1 (by simp);simp at this
 | x::r,y::s,ha,hb,h=>by
  rw [List.pairwise_cons] at ha hb;have hxy:x=y:=by
   rcases List.mem_cons.1 ((h x).1 (by simp)) with e | e
   ·exact e
   ·rcases List.mem_cons.1 ((h y).2 (by simp)) with e' | e'
    ·exact e'.symm
    ·have h1:=hb.1 x e;have h2:=ha.1 y e';unfold ltP at h1 h2;omega
  subst hxy;rw [lex_ext ha.2 hb.2 fun z=> ?_];have hz:=h z;rw [List.mem_cons,List.mem_cons] at hz;constructor
  ·intro hzr;rcases hz.1 (.inr hzr) with e | e
   ·subst e;have:=ha.1 z hzr;unfold ltP at this;omega
   ·exact e
  ·intro hzs;rcases hz.2 (.inr hzs) with e | e
   ·subst e;have:=hb.1 z hzs;unfold ltP at this;omega
   ·exact e
def ldOf (x:Nd):Ld:=⟨x.te,x.id⟩
def ldT (N:List Nd) (t:Int):Nat→List Ld
 | 0=> []
 | k+1=>ldT N t k++(if (N.getD k Nd.zero).ro=2∧(N.getD k Nd.zero).te=t then [ldOf (N.getD k Nd.zero)] else [])
def ldS (N:List Nd):Nat→List Ld
 | 0=> []
 | t+1=>ldS N t++ldT N ((t+1:Nat):Int) N.length
def ldI (N:List Nd):Nat→List Ld
 | 0=> []
 | k+1=>ldI N k++(if (N.getD k Nd.zero).ro=2 then [ldOf (N.getD k Nd.zero)] else [])
def ldR (ok:Bool) (N:List Nd):List Ld:=if ok then ldS N 1000 else []
theorem ldT_len (N:List Nd) (t:Int) (k:Nat):(ldT N t k).length≤k:=by
 induction k with
 | zero=>simp [ldT]
 | succ k ih=>simp only [ldT,List.length_append];split <;>simp <;>omega
theorem ldI_len (N:List Nd) (k:Nat):(ldI N k).length≤k:=by
 induction k with
 | zero=>simp [ldI]
 | succ k ih=>simp only [ldI,List.length_append];split <;>simp <;>omega
theorem ldS_len (N:List Nd) (t:Nat):(ldS N t).length≤t*N.length:=by
 induction t with
 | zero=>simp [ldS]
 | succ t ih=>
  simp only [ldS,List.length_append];have:=ldT_len N ((t+1:Nat):Int) N.length;rw [Nat.succ_mul];omega
theorem mem_ldT (N:List Nd) (t:Int) (k:Nat) (x:Ld):x∈ldT N t k↔∃i,i<k∧(N.getD i Nd.zero).ro=2∧(N.getD i Nd.zero).te=t∧x=ldOf (N.getD i Nd.zero):=by
 induction k with
 | zero=>simp [ldT]
 | succ k ih=>
  simp only [ldT,List.mem_append,ih];constructor
  ·rintro (⟨i,h1,h2⟩ | h)
   ·exact⟨i,by omega,h2⟩
   ·split at h
    ·rename_i hc;simp only [List.mem_singleton] at h;exact⟨k,by omega,hc.1,hc.2,h⟩
    ·simp at h
  ·rintro⟨i,h1,h2,h3,h4⟩;by_cases hik:i<k
   ·exact .inl ⟨i,hik,h2,h3,h4⟩
   ·obtain rfl:i=k:=by omega
    right;rw [if_pos ⟨h2,h3⟩];simp [h4]
theorem mem_ldI (N:List Nd) (k:Nat) (x:Ld):x∈ldI N k↔∃i,i<k∧(N.getD i Nd.zero).ro=2∧x=ldOf (N.getD i Nd.zero):=by
 induction k with
 | zero=>simp [ldI]
 | succ k ih=>
  simp only [ldI,List.mem_append,ih];constructor
  ·rintro (⟨i,h1,h2⟩ | h)
   ·exact⟨i,by omega,h2⟩
   ·split at h
    ·rename_i hc;simp only [List.mem_singleton] at h;exact⟨k,by omega,hc,h⟩
    ·simp at h
  ·rintro⟨i,h1,h2,h4⟩;by_cases hik:i<k
   ·exact .inl ⟨i,hik,h2,h4⟩
   ·obtain rfl:i=k:=by omega
    right;rw [if_pos h2];simp [h4]
theorem mem_ldS (N:List Nd) (t:Nat) (x:Ld):x∈ldS N t↔∃i,i<N.length∧(N.getD i Nd.zero).ro=2∧1≤(N.getD i Nd.zero).te∧(N.getD i Nd.zero).te≤(t:Int)∧x=ldOf (N.getD i Nd.zero):=by
 induction t with
 | zero=>
  simp only [ldS,List.not_mem_nil,false_iff];rintro⟨i,_,_,h1,h2,_⟩;omega
 | succ t ih=>
  simp only [ldS,List.mem_append,ih,mem_ldT];constructor
  ·rintro (⟨i,h1,h2,h3,h4,h5⟩ | ⟨i,h1,h2,h3,h4⟩)
   ·exact⟨i,h1,h2,h3,by omega,h5⟩
   ·exact⟨i,h1,h2,by omega,by omega,h4⟩
  ·rintro⟨i,h1,h2,h3,h4,h5⟩;by_cases hl:(N.getD i Nd.zero).te≤(t:Int)
   ·exact .inl ⟨i,h1,h2,h3,hl,h5⟩
   ·exact .inr ⟨i,h1,h2,by omega,h5⟩
theorem ldT_pw (N:List Nd) (t:Int) (hid:∀i,i<N.length→(N.getD i Nd.zero).id=(i:Int)) (k:Nat) (hk:k≤N.length):(ldT N t k).Pairwise ltP:=by
 induction k with
 | zero=>simp [ldT]
 | succ k ih=>
  simp only [ldT];refine List.pairwise_append.2 ⟨ih (by omega),by split <;>simp,fun x hx y hy=> ?_⟩;obtain⟨i,h1,h2,h3,h4⟩:=(mem_ldT N t k x).1 hx
  split at hy
  ·rename_i hc
   simp only [List.mem_singleton] at hy;subst hy;subst h4;have e1:=hid i (by omega);have e2:=hid k (by omega);unfold ltP ldOf;dsimp only;omega
  ·simp at hy
theorem ldS_pw (N:List Nd) (hid:∀i,i<N.length→(N.getD i Nd.zero).id=(i:Int)) (t:Nat):(ldS N t).Pairwise ltP:=by
 induction t with
 | zero=>simp [ldS]
 | succ t ih=>
  simp only [ldS];refine List.pairwise_append.2 ⟨ih,ldT_pw N _ hid _ (Nat.le_refl _),fun x hx y hy=> ?_⟩;obtain⟨i,h1,h2,h3,h4,h5⟩:=(mem_ldS N t x).1 hx;obtain⟨j,g1,g2,g3,g4⟩:=(mem_ldT N _ _ y).1 hy;subst h5;subst g4;unfold ltP ldOf;dsimp only;omega
theorem ldI_pw (N:List Nd) (hid:∀i,i<N.length→(N.getD i Nd.zero).id=(i:Int)) (k:Nat) (hk:k≤N.length):(ldI N k).Pairwise fun x y=>x.n≠y.n:=by
 induction k with
 | zero=>simp [ldI]
 | succ k ih=>
  simp only [ldI];refine List.pairwise_append.2 ⟨ih (by omega),by split <;>simp,fun x hx y hy=> ?_⟩;obtain⟨i,h1,h2,h4⟩:=(mem_ldI N k x).1 hx
  split at hy
  ·simp only [List.mem_singleton] at hy;subst hy;subst h4;have e1:=hid i (by omega);have e2:=hid k (by omega);unfold ldOf;dsimp only;omega
  ·simp at hy
theorem sorted_eq (N:List Nd) (hid:∀i,i<N.length→(N.getD i Nd.zero).id=(i:Int)) (hte:∀i,i<N.length→(N.getD i Nd.zero).ro=2→1≤(N.getD i Nd.zero).te∧(N.getD i Nd.zero).te≤1000) (d:List Ld) (hp:d.Perm (ldI N N.length)) (hs:∀i j (hi:i<d.length) (hj:j<d.length),i<j→¬ltP d[j] d[i]):d=ldS N 1000:=by
 have hne:d.Pairwise fun x y=>x.n≠y.n:=(hp.pairwise_iff (fun {x y} h e=>h e.symm)).2 (ldI_pw N hid _ (Nat.le_refl _));refine lex_ext ?_ (ldS_pw N hid 1000) fun x=> ?_
 ·rw [List.pairwise_iff_getElem] at hne ⊢;intro i j hi hj hij;have h1:=hne i j hi hj hij;have h2:=hs i j hi hj hij;unfold ltP at h2 ⊢;omega
 ·rw [hp.mem_iff,mem_ldI,mem_ldS];constructor
  ·rintro⟨i,h1,h2,h3⟩;have:=hte i h1 h2;exact⟨i,h1,h2,this.1,by omega,h3⟩
  ·rintro⟨i,h1,h2,_,_,h3⟩;exact⟨i,h1,h2,h3⟩
theorem goodN_lead1 {id pe te vo co:Int} {log:List En} {vs mt:List Int} (h:zm_ id pe te vo co 2 log vs mt=true):1≤te:=by
 rw [zK_] at h;simp only [Bool.and_eq_true] at h;have h':=h.2.2.2.2.2.2.2;unfold zF_ at h';simp [ownT] at h';omega
theorem goodC_ld {N:List Nv} {M:List Ms} {L:List Ld} (h:zV_ (N.map Nv.n) M L=true):1≤N.length∧N.length≤7∧(∀i,i<(N.map Nv.n).length→((N.map Nv.n).getD i Nd.zero).id=(i:Int))∧∀i,i<(N.map Nv.n).length→((N.map Nv.n).getD i Nd.zero).ro=2→1≤((N.map Nv.n).getD i Nd.zero).te∧((N.map Nv.n).getD i Nd.zero).te≤1000:=by
 unfold zV_ at h;simp only [List.length_map,Bool.and_eq_true,decide_eq_true_eq] at h;have hn:=of_decide_eq_true h.2.1;refine⟨h.1.1,h.1.2,fun i hi=> ?_,fun i hi hr=> ?_⟩
 ·simp only [List.length_map] at hi;have:=hn i (by simpa using hi);simp only [ndOk,gNd,List.getElem_map,Bool.and_eq_true,decide_eq_true_eq] at this;rw [hiT_at N i hi];exact this.2.1
 ·simp only [List.length_map] at hi;have:=hn i (by simpa using hi);simp only [ndOk,gNd,List.getElem_map,Bool.and_eq_true,decide_eq_true_eq] at this;rw [hiT_at N i hi] at hr ⊢;have hg:=this.1;have h2:=goodN_te hg;rw [hr] at hg;exact⟨goodN_lead1 hg,h2⟩
theorem wpList_append_ld (w:World) {ops:Array Oper} {rest:List Oper} {o:Oper} {a:Act} {Q:Exit→Act→World→Prop} (hgd:o.guard=none) (s y:Operand)
  (ho:o.op= .call ⟨.builtin .append,#[s,y],#[28,28]⟩) (hty:o.type=28)
  (base:Nat) (v:Value) (n:Nat) (zs:List Ld) (hs:a.eval s=v) (hown:w.ownsRow base 34 2 v n (zQ_ zs))
  (b:Nat) (x:Ld) (hx:a.eval y= .slice (some ⟨b,0,none⟩) 1 1) (hI:Box w b [x.t,x.n]) (hn:n+1≤2000000) (hbase:base≤w.heap.size)
  (h:∀v' w',w'.ownsRow base 34 2 v' (n+1) (zQ_ (zs++ [x]))→w.grownBy w' v.ownBlock→wpList Tryz.prog ops Q rest (a.put o.dst v') w'):wpList Tryz.prog ops Q (o::rest) a w:=by
 obtain⟨i0,hi,hz0,hzs,hzb⟩:=info_parts Tryz.info34;refine wpList_append_own _ hgd s y 28 ho base 34 i0 (.agg #[(0:Int),(0:Int)]) 2 16 Tryz.underlying28 hi hz0 hzs hzb rfl (by decide) v n (zQ_ zs) hs hown ⟨b,0,none⟩ 1 1 (zQ_ [x]) hx rfl ?_ ?_ (by unfold maxLen;omega) (by omega) hbase fun v' w' h1 h2 _=>h v' w' (by rw [flatL_append];exact h1) h2
 ·intro j u hj;rw [show (⟨b,0,none⟩:Addr).add j=⟨b,j,none⟩ from by simp [Addr.add];omega];exact hI.2.1 j u hj
 ·intro u hu;simp only [zQ_,List.mem_cons,List.not_mem_nil,or_false] at hu;rcases hu with rfl | rfl <;>rfl
end Go.Proofs.YtapfhhmimkkhnaaGreat
