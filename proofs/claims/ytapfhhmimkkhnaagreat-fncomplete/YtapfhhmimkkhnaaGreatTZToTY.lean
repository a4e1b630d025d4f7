/-
  Zero steps appended to a row of one's own.
  The draw of a play: clusterSteps, DrawPlayCluster.
  The draw of a play: DrawPlayCluster.
  The walk of FnMatching.
  HighestTerm: both sides.
  The walk of FnComplete.
  From the reading of an argument to the lists that the contracts speak of: a slice of bytes that came in.
-/
import Derived.Test.YtapfhhmimkkhnaaGreatDCToDE
import Derived.Test.YtapfhhmimkkhnaaGreatCWToCV
import Derived.Lib.AppendZerosOnto
import Derived.Test.YtapfhhmimkkhnaaGreatOVToLW
import Derived.Deep.Cut
import Derived.Deep.CutRange
import Derived.Deep.CutBlock
import Derived.Test.YtapfhhmimkkhnaaGreatPYToD5
import Derived.Test.YtapfhhmimkkhnaaGreatNCToPP
import Derived.Test.YtapfhhmimkkhnaaGreatCMDToSE
import Derived.ChangeSlices
namespace Go.Proofs.YtapfhhmimkkhnaaGreat
open Go.RowKit Go.Maps
set_option linter.unusedVariables false
set_option maxRecDepth 100000
set_option maxHeartbeats 2000000
theorem zerosT (k:Nat):(Builtin.zeroCells (Value.agg #[(0:Int),(0:Int),(0:Int),(0:Int),.string ⟨#[]⟩]).cells k).toList=flT (List.replicate k Sp.zero):=by
 rw [←flT_zeros]
 rfl
theorem oneT:∀(L:List Sp),∀u∈flT L,u.oneCell'=true
 | [],_,h=>by cases h
 | s::r,u,h=>by
  simp only [flT,List.mem_cons] at h;rcases h with rfl | rfl | rfl | rfl | rfl | h
  all_goals first | rfl | exact oneT r u h
theorem zeros_own (w:World) (base n:Nat) (v:Value) (L:List Sp) (ho:w.ownsRow base 51 5 v n (flT L)) (hn:n=L.length) (k:Nat) (hk:0<k) (hb:n+k≤2000) (hbase:base≤w.heap.size):
  ∃v' w',(∀ty,(Builtin.append_ #[23,3] ty #[v,k]).run Tryz.prog w= .ok v' w')∧w'.ownsRow base 51 5 v' (n+k) (flT (L++List.replicate k Sp.zero))∧w.grownBy w' v.ownBlock:=by
 obtain⟨i0,hi,hz0,hzs,hzb⟩:=info_parts Tryz.info51;obtain⟨Zs,hZs⟩:∃Zs,Zs=flT (List.replicate k Sp.zero):=⟨_,rfl⟩;have hZl:Zs.length=k*5:=by rw [hZs,flT_length];simp
 have hZc:(Builtin.zeroCells (Value.agg #[(0:Int),(0:Int),(0:Int),(0:Int),.string ⟨#[]⟩]).cells k)=Zs.toArray:=by
  rw [hZs,←zerosT]
 have hfl:flT (L++List.replicate k Sp.zero)=flT L++Zs:=by rw [flT_append,hZs]
 have h1:∀u∈Zs,u.oneCell'=true:=by rw [hZs];exact oneT _
 rw [hfl];have hlen:(flT L++Zs).length=(n+k)*5:=by rw [List.length_append,ho.1,hZl];omega
 clear hZs hfl;have fresh:∀(bs:Option Addr) (old:Nat),old<n+k→(Builtin.firstCells i0.size n (.slice bs n old)).run Tryz.prog w.drew= .ok (flT L).toArray w.drew→
   ∃v' w',(∀ty,(Builtin.append_ #[23,3] ty #[.slice bs n old,k]).run Tryz.prog w= .ok v' w')∧w'.ownsRow base 51 5 v' (n+k) (flT L++Zs)∧∀row,w.grownBy w' row:=by
  intro bs old hlt hold;have hr:=fun ty=>Lib.run_append_grow_zeros w 23 3 ty 51 i0 _ .i64 .i64 Tryz.underlying23 Tryz.underlying3 hi hz0 bs n old (flT L) hold k hk (by rw [hzs];omega) hlt (by omega) (by rw [hzb];omega) (by rw [hzb];exact growslice_fits (by omega) (by omega));rw [hZc] at hr;have hge:=grownCap_ge w (n+k) old 51;have hcm:=grownCap_le_maxLen w (n+k) old 51 (by unfold maxLen;omega);generalize grownCap w (n+k) old 51=C at*;refine⟨_,_,hr,⟨hlen,.inr ⟨w.heap.size,C,_,rfl,hbase,heap_alloc_new w.drew _,hge,hcm,?_,?_⟩⟩,fun row=>⟨rfl,rfl,rfl,by simp,fun j hj _=>heap_alloc_old w.drew _ hj⟩⟩
  ·simp only [Array.size_append,List.size_toArray,size_zeroCells,ho.1,hZl];simp [Value.cells];omega
  ·simp only [Array.toList_append,List.append_assoc];rw [←List.append_assoc,←hlen];exact List.take_left
 rcases ho.2 with⟨rfl,h0⟩ | ⟨g,cap,cur,rfl,hbg,hg,hnc,hcm,hcs,htk⟩
 ·have hL0:L= []:=List.length_eq_zero_iff.1 (by omega);subst hL0;subst h0;obtain⟨v',w',a,b,c⟩:=fresh none 0 (by omega) (by simp [Builtin.firstCells,flT]);exact⟨v',w',a,b,c _⟩
 ·by_cases hroom:n+k≤cap
  ·have hfit:n*5+Zs.length≤cur.size:=by rw [hZl,hcs];omega
   have hst:=run_storeCells_at Tryz.prog g (n*5) 51 Zs 0 cur w hg (by simpa using hfit) h1;simp only [Nat.add_zero] at hst;have hw:IntKind.i64.wrap (k:Int)=k:=by rw [IntKind.wrap_i64];omega
   have hneg:¬((k:Int)<0):=by omega
   have h48:¬(281474976710656<(k:Int)*(i0.bytes:Int)):=by rw [hzb];omega
   have hns:¬(k*i0.size=0):=by rw [hzs];omega
   have hrun:∀ty,(Builtin.append_ #[23,3] ty #[.slice (some ⟨g,0,none⟩) n cap,k]).run Tryz.prog w= .ok (.slice (some ⟨g,0,none⟩) (n+k) cap) (w.setRow g (cur.toList.take (n*5)++Zs++cur.toList.drop (n*5+Zs.length)).toArray):=fun ty=>by
    simp [Builtin.append_,run_underlying Tryz.underlying23,run_underlying Tryz.underlying3,sizeOf,typeInfo,zeroValue,hi,hz0,asInt,asIntOf,hw,hneg,h48,hroom,hzs,Addr.add_lit,hst,hZc];omega
   refine⟨_,_,hrun,⟨hlen,.inr ⟨g,cap,_,rfl,hbg,setRow_heap w g cur _ 51 _ hg,hroom,hcm,?_,?_⟩⟩,⟨rfl,rfl,rfl,by simp,fun j _ hj=>setRow_other w g j _ (fun e=>hj (by simp [Value.ownBlock,e]))⟩⟩
   ·simp only [List.size_toArray,List.length_append,List.length_take,List.length_drop,Array.length_toList];omega
   ·rw [htk,←hlen];exact List.take_left
  ·have hd:=ho.drew;have hold:(Builtin.firstCells i0.size n (.slice (some ⟨g,0,none⟩) n cap)).run Tryz.prog w.drew= .ok (flT L).toArray w.drew:=
    run_firstCells_some (P:=Tryz.prog) w.drew i0.size n ⟨g,0,none⟩ n cap (flT L) (by rw [ho.1,hzs]) (hd.cells (g:=g) rfl)
   obtain⟨v',w',a,b,c⟩:=fresh (some ⟨g,0,none⟩) cap (by omega) hold;exact⟨v',w',a,b,c _⟩
set_option maxHeartbeats 8000000
theorem steps_any (b:Nat) (l:List UInt8) (K pe:Nat) (w:World) (h:Cur w b l K) (hl:l.length≤9223372036854775807) (hK:K≤100000) (hp1:1≤pe) (hp:pe≤5):
  Calls Tryz.prog 31 #[.pointer (some ⟨b,0,none⟩),pe] w fun e w'=>(∃v L,e= .returned v∧w'.ownsRow w.heap.size 51 5 v L.length (flT L)∧L.length≤1000∧∀s∈L,s.d.size≤1)∧Cur w' b l (K+20000)∧Chg (· =b) w w':=by
 have hbl:=h.lt;go_enter Tryz.func31,Tryz.ntmps31;go_wp2_with fail;refine (zO_ b l K 5 _ h hl (by omega) (by omega)).mono ?_;rintro e w1 ⟨⟨n0,rfl,hn0⟩,hc1,hch⟩;have hz1:=hch.size;have hn4:n0≤4:=by omega
 have hc:=hc1.mono (show K+2≤K+2+1000*(4-n0) from by omega);clear h hc1 hn0;go_wp2
 go_loopw [5,6] (fun v i wr=>∃(L:List Sp) (q:Nat),wr.ownsRow w.heap.size 51 5 v L.length (flT L)∧L.length≤60*(4-q)∧(∀s∈L,s.d.size≤1)∧Cur wr b l (K+2+1000*(4-q))∧Chg (· =b) w wr∧i= .int .i64 q∧q≤4∧w.heap.size≤wr.heap.size) (fun _ i _=>(intOf i).toNat)
 case atStart=>exact⟨[],n0,World.ownsRow_nil _ _ _ _,Nat.zero_le _,(fun s hs=>by cases hs),hc,hch,rfl,hn4,hz1⟩
 case round=>
  clear hc hch hz1;obtain⟨L,q,oL,hlen,hL,hc,hch,rfl,hq4,hzr⟩:=hrel;obtain⟨va,vc,rfl⟩:=ze_ oL;by_cases hlt:0<q
  ·have hlt2:(0:Int)<(q:Int):=by omega
   obtain⟨KQ,hKQ⟩:∃KQ,Hid (K+2+1000*(4-q)=KQ):=⟨_,rfl⟩;have hKq:KQ+1000≤K+2+1000*(4-(q-1)):=by have:=hKQ.out;omega
   have hKb:KQ≤K+5000:=by have:=hKQ.out;omega
   rw [hKQ.out] at hc;clear hKQ;go_wp2_with fail;refine (one_any b l _ 3 _ hc hl (by omega) (by omega)).mono ?_;rintro e w2 ⟨⟨x2,rfl⟩,hc1,hch1⟩;replace oL:=hch1.owns oL (fun x hx hh=>by have:=zg_ oL x hx;have hh:x=b:=hh;omega);replace hch:=hch.trans hch1;have hz2:=hch1.size;clear hc hch1;go_upto_if 16 with fail
   go_cut [5] from 10 to 36 (fun s5 wc=>∃(L:List Sp),wc.ownsRow w.heap.size 51 5 s5 L.length (flT L)∧L.length≤60*(4-q)+40∧(∀s∈L,s.d.size≤1)∧Cur wc b l (KQ+2+2+40)∧Chg (· =b) w wc∧w.heap.size≤wc.heap.size)
   case first=>
    cases x2 with
    | true=>
     have hc2:=hc1.mono (show KQ+2≤KQ+2+2+40 from by omega);clear hc1;go_wp2_with fail;go_meet
     case rel=>exact⟨L,oL,by omega,hL,hc2,hch,by omega⟩
    | false=>
     go_wp2_with fail;refine (zO_ b l _ pe _ hc1 hl (by omega) (by omega)).mono ?_;rintro e w3 ⟨⟨x3,rfl,hx3⟩,hc2,hch2⟩;replace oL:=hch2.owns oL (fun x hx hh=>by have:=zg_ oL x hx;have hh:x=b:=hh;omega);replace hch:=hch.trans hch2;have hz3:=hch2.size;clear hc1 hch2 hx3;go_wp2_with fail;refine (elected_any b l _ pe x3 _ hc2 hl (by omega) hp1 hp).mono ?_;rintro e w4 ⟨⟨ev,EL,rfl,oE,hEl,hEd⟩,hc3,hch3⟩;replace oL:=hch3.owns oL (fun x hx hh=>by have:=zg_ oL x hx;have hh:x=b:=hh;omega);replace hch:=hch.trans hch3;have hz4:=hch3.size;clear hc2 hch3;obtain⟨ea,ec,rfl⟩:=ze_ oE;have TE:=TR_of_owns oE rfl;go_wp2_with (at_builtin;refine zs_.go ?_);unfold zs_;refine wpList_append_Ts _ rfl _ _ rfl rfl w.heap.size _ L.length L rfl oL _ EL rfl TE (by omega) (by omega) ?_;intro v9 w9 o9 hgr9 _;have hC9:=zz_ hgr9;have hz9:=hC9.size;have hB9:Below w.heap.size w4 w9:=hC9.below (by omega) (fun q hq=>zg_ oL q hq);have hc9:=cur_low hc3 hbl hB9;have hch9:=hch.nextC hC9 (fun q hq=> .inr (zg_ oL q hq));have HL9:∀s∈L++EL,s.d.size≤1:=fun s hs=>(List.mem_append.1 hs).elim (hL s) (hEd s);have hl9:(L++EL).length=L.length+EL.length:=by simp
     rw [←hl9] at o9;generalize hL9:L++EL=L9 at*;have hlen9:L9.length≤60*(4-q)+40:=by omega
     have hzw:w.heap.size≤w9.heap.size:=by omega
     clear hgr9 hC9 hB9 oL hL9 TE oE hc3 hch hEd hL;go_wp2_with fail;go_meet
     case rel=>exact⟨L9,o9,hlen9,HL9,hc9,hch9,hzw⟩
   case rest=>
    clear oL hc1 hch hL hlen;obtain⟨L,oL,hlen,hL,hc,hch,hzc⟩:=hcut;obtain⟨va,vc,rfl⟩:=ze_ oL;generalize wc=w5 at*;go_wp2_with fail;refine (zO_ b l _ 14 _ hc hl (by omega) (by omega)).mono ?_;rintro e w6 ⟨⟨k0,rfl,hk0⟩,hc1,hch1⟩;replace oL:=hch1.owns oL (fun x hx hh=>by have:=zg_ oL x hx;have hh:x=b:=hh;omega);replace hch:=hch.trans hch1;have hz6:=hch1.size;have hk13:k0≤13:=by omega
    have hc:=hc1.mono (show KQ+2+2+40+2≤KQ+100+40*(13-k0) from by omega);have hlen2:L.length≤60*(4-q)+40+(13-k0):=by omega
    clear hc1 hch1 hk0 hlen;go_wp2
    go_loopw [5,7] (fun v i wx=>∃(L:List Sp) (m:Nat),wx.ownsRow w.heap.size 51 5 v L.length (flT L)∧L.length≤60*(4-q)+40+(13-m)∧(∀s∈L,s.d.size≤1)∧Cur wx b l (KQ+100+40*(13-m))∧Chg (· =b) w wx∧i= .int .i64 m∧m≤13∧w.heap.size≤wx.heap.size) (fun _ i _=>(intOf i).toNat)
    case atStart=>exact⟨L,k0,oL,hlen2,hL,hc,hch,rfl,hk13,by omega⟩
    case round=>
     clear oL hlen2 hL hc hch hz6;obtain⟨L,m,oL,hlen,hL,hc,hch,rfl,hm13,hzx⟩:=hrel;obtain⟨va,vc,rfl⟩:=ze_ oL;by_cases hlt3:0<m
     ·have hlt4:(0:Int)<(m:Int):=by omega
      go_wp2_with fail;refine (clusterStep_any b l _ pe _ hc hl (by omega) hp).mono ?_;rintro e w7 ⟨⟨s,rfl,hs1⟩,hc1,hch1⟩;replace oL:=hch1.owns oL (fun x hx hh=>by have:=zg_ oL x hx;have hh:x=b:=hh;omega);replace hch:=hch.trans hch1;have hz7:=hch1.size;clear hc hch1;have hc:=hc1.mono (show KQ+100+40*(13-m)+40≤KQ+100+40*(13-(m-1)) from by omega);clear hc1;go_wp2_with (at_builtin;refine zs_.go ?_);unfold zs_;have V:=Box.new w7 #[s.ki,s.no,s.k,s.ma,s.d] 51;have hBA:=zb_ w7 (.cells #[s.ki,s.no,s.k,s.ma,s.d] 51);have hzA:w7.heap.size<(w7.alloc (.cells #[s.ki,s.no,s.k,s.ma,s.d] 51)).heap.size:=by simp
      replace oL:=zd_ oL hBA;replace hc:=hc.chg hBA;replace hch:=hch.trans (Chg.of_below hBA);refine zX_ _ rfl _ _ rfl rfl w.heap.size _ L.length L rfl oL w7.heap.size s rfl V (by omega) (by omega) ?_;intro v9 w9 o9 hgr9 _;have hC9:=zz_ hgr9;have hz9:=hC9.size;have hB9:Below w.heap.size (w7.alloc (.cells #[s.ki,s.no,s.k,s.ma,s.d] 51)) w9:=hC9.below (by omega) (fun q hq=>zg_ oL q hq);replace hc:=cur_low hc hbl hB9;replace hch:=hch.nextC hC9 (fun q hq=> .inr (zg_ oL q hq));have HL9:∀x∈L++ [s],x.d.size≤1:=fun x hx=>by
       rcases List.mem_append.1 hx with h | h
       ·exact hL x h
       ·rw [List.mem_singleton.1 h];exact hs1
      have hl9:(L++ [s]).length=L.length+1:=by simp
      rw [←hl9] at o9;generalize hL9:L++ [s]=L9 at*;have hlen9:L9.length≤60*(4-q)+40+(13-(m-1)):=by omega
      have hzN:w.heap.size≤w9.heap.size:=by omega
      clear hgr9 hC9 hB9 hBA V hzA oL hL9 hL;go_wp2;go_roundw
      case rel=>exact⟨L9,m-1,o9,hlen9,HL9,hc,hch,by go_num,by omega,hzN⟩
      case measure=>simp [intOf];omega
     ·obtain rfl:m=0:=by omega
      have hc2:=hc.mono (show KQ+100+40*(13-0)≤K+2+1000*(4-(q-1)) from by omega);clear hc;go_wp2;go_roundw
      case rel=>
       exact⟨L,q-1,oL,by omega,hL,hc2,hch,by go_num,by omega,hzx⟩
      case measure=>simp [intOf];omega
  ·obtain rfl:q=0:=by omega
   clear hlt;have hc:=hc.mono (show K+2+1000*(4-0)≤K+5000 from by omega);go_wp2_with fail;refine (one_any b l _ 40 _ hc hl (by omega) (by omega)).mono ?_;rintro e w2 ⟨⟨x2,rfl⟩,hc1,hch1⟩;replace oL:=hch1.owns oL (fun x hx hh=>by have:=zg_ oL x hx;have hh:x=b:=hh;omega);replace hch:=hch.trans hch1;have hz2:=hch1.size;clear hc hch1
   cases x2 with
   | false=>
    have hc2:=hc1.mono (show K+5000+2≤K+20000 from by omega);clear hc1;go_wp2;go_ret;exact⟨⟨_,L,rfl,oL,by omega,hL⟩,hc2,hch⟩
   | true=>
    go_wp2_with fail;refine (zO_ b l _ 2 _ hc1 hl (by omega) (by omega)).mono ?_;rintro e w3 ⟨⟨x3,rfl,hx3⟩,hc2,hch2⟩;replace oL:=hch2.owns oL (fun x hx hh=>by have:=zg_ oL x hx;have hh:x=b:=hh;omega);replace hch:=hch.trans hch2;have hz3:=hch2.size;clear hc1 hch2;have hc3:=hc2.mono (show K+5000+2+2≤K+20000 from by omega);clear hc2;obtain⟨kz,hkz⟩:∃kz:Nat,kz=200-L.length % 200+x3:=⟨_,rfl⟩;have hk0:0<kz:=by omega
    have hk1:kz≤202:=by omega
    have hk2:((200-L.length % 200:Nat):Int)+(x3:Int)=(kz:Int):=by omega
    have hk3:(200:Int)-(L.length:Int) % 200=((200-L.length % 200:Nat):Int):=by omega
    have hx31:x3≤1:=by omega
    obtain⟨v9,w9,hr9,o9,hgr9⟩:=zeros_own w3 w.heap.size L.length _ L oL rfl kz hk0 (by omega) (by omega);have hC9:=zz_ hgr9;have hz9:=hC9.size;have hB9:Below w.heap.size w3 w9:=hC9.below (by omega) (fun q hq=>zg_ oL q hq);have hc9:=cur_low hc3 hbl hB9;have hch9:=hch.nextC hC9 (fun q hq=> .inr (zg_ oL q hq));have HL9:∀s∈L++List.replicate kz Sp.zero,s.d.size≤1:=fun s hs=>by
     rcases List.mem_append.1 hs with h | h
     ·exact hL s h
     ·rw [List.eq_of_mem_replicate h];decide
    have hl9:(L++List.replicate kz Sp.zero).length=L.length+kz:=by simp
    rw [←hl9] at o9;generalize hL9:L++List.replicate kz Sp.zero=L9 at*;have hlen9:L9.length≤1000:=by omega
    have HR9:Hid _:=hr9;clear hgr9 hC9 hB9 oL hL9 hc3 hch hL hkz hx3 hr9;go_wp2_with (at_builtin;refine zs_.go ?_);unfold zs_
    first | rw [hk2] | skip
    refine Lib.wpList_append_run _ rfl _ _ _ _ rfl _ _ rfl rfl _ _ (HR9.out _) ?_;clear HR9 hk2;go_wp2;go_ret;exact⟨⟨_,L9,rfl,o9,hlen9,HL9⟩,hc9,hch9⟩
theorem drawPC_any (v:Value) (l:List UInt8) (w:World) (h:YL w v l) (hl:l.length≤9223372036854775807):
  Calls Tryz.prog 8 #[v] w fun e w'=>(∃(pe:Int) (sv:Value) (L:List Sp),e= .returned (.tuple #[pe,sv])∧w'.ownsRow w.heap.size 51 5 sv L.length (flT L)∧L.length≤1000∧∀s∈L,s.d.size≤1)∧Below w.heap.size w w':=by
 obtain⟨a0,c0,hv⟩:∃a c,v= .slice a l.length c:=by obtain⟨a,c,h1,_⟩:=h;exact⟨a,c,h1⟩
 subst hv;have hc:=cur_new h;obtain⟨W0,hW0⟩:∃W,W=w.alloc (.cells #[.slice a0 l.length c0,(0:Int),.int .u64 0] 70):=⟨_,rfl⟩;have hB:Below w.heap.size w W0:=by rw [hW0];exact zb_ _ _
 have hz0:w.heap.size<W0.heap.size:=by rw [hW0];simp
 rw [←hW0] at hc;go_enter Tryz.func8,Tryz.ntmps8;go_upto_region 2 with fail;rw [←hW0];clear hW0 h;have V:=Box.new W0 #[(1:Int),(2:Int),(3:Int),(3:Int),(3:Int),(4:Int),(5:Int)] 3;have hBA:=zb_ W0 (.cells #[(1:Int),(2:Int),(3:Int),(3:Int),(3:Int),(4:Int),(5:Int)] 3);have hzA:W0.heap.size<(W0.alloc (.cells #[(1:Int),(2:Int),(3:Int),(3:Int),(3:Int),(4:Int),(5:Int)] 3)).heap.size:=by simp
 replace hc:=hc.chg hBA;have hB1:=za_ hB hBA;go_wp2_with fail;refine (among_any w.heap.size l 0 W0.heap.size [1,2,3,3,3,4,5] _ hc hl (by omega) V (by omega) (by simp) (by simp)).mono ?_;rintro e w2 ⟨⟨x,rfl,hx⟩,hc1,hch1⟩;have hx5:1≤x∧x≤5:=by simp at hx;omega
 obtain⟨pe,rfl⟩:=Int.eq_ofNat_of_zero_le (show 0≤x from by omega);have hB2:=below_cur hB1 hch1;have hz2:=hch1.size;clear hc hch1 hB hB1 hBA V hx;go_wp2_with fail;refine (steps_any w.heap.size l _ pe _ hc1 hl (by omega) (by omega) (by omega)).mono ?_;rintro e w3 ⟨⟨sv,L,rfl,oL,hlen,hd⟩,hc2,hch2⟩;have hB3:=below_cur hB2 hch2;replace oL:=zf_ oL (show w.heap.size≤w2.heap.size from by omega);obtain⟨sa,sc,rfl⟩:=ze_ oL;clear hc1 hc2 hch2 hB2;go_wp2;go_ret2;exact⟨⟨_,_,L,rfl,oL,hlen,hd⟩,hB3⟩
set_option maxHeartbeats 200000
theorem plR_pf {p:Int} {l:List Sp} (h:plOk p l=true):1≤p∧p≤7∧PF p.toNat (plR true p.toNat l):=by
 have hp:1≤p∧p≤7:=by
  unfold plOk at h;simp only [Bool.and_eq_true] at h;simpa [inB] using h.1
 refine⟨hp.1,hp.2,?_⟩;show PF p.toNat (if true=true then plGo (zF_ p.toNat) l else⟨[],[],[]⟩);rw [if_pos rfl];exact (newPF p.toNat (by omega) (by omega)).go l
theorem drawn_short {L:List Sp} (h:∀s∈L,s.d.size≤1):∀i (hi:i<L.length),L[i].d.size≤1048576:=fun i hi=>by have:=h L[i] (List.getElem_mem hi);omega
set_option maxHeartbeats 16000000
def hiT (N:List Nd):Nat→Int
 | 0=>0
 | k+1=>if hiT N k<(N.getD k Nd.zero).te then (N.getD k Nd.zero).te else hiT N k
def hiR (ok:Bool) (N:List Nd):Int:=if ok then hiT N N.length else 0
theorem hiT_at (N:List Nv) (k:Nat) (h:k<N.length):(N.map Nv.n).getD k Nd.zero=N[k].n:=by simp [List.getD,h]
theorem implHi_any (vn vm vl:Value) (N:List Nv) (M:List Mv) (L:List Ld) (w:World) (h:CR w vn vm vl N M L) (hs:CS N M L):
  Calls Tryz.prog 17 #[.agg #[vn,vm,vl]] w fun e w'=>e= .returned (.tuple #[(hiR (goodC (N.map Nv.n) (M.map Mv.q) L) (N.map Nv.n):Int),.bool (goodC (N.map Nv.n) (M.map Mv.q) L)])∧Below w.heap.size w w':=by
 have K:=implGoodC_any vn vm vl N M L _ (h.below (zb_ w (.cells #[vn,vm,vl] 30))) hs;obtain⟨⟨na,nc,hcn⟩,⟨xa,xc,hcm⟩,ya,yc,hcl⟩:=h.shapes;subst hcn;subst hcm;subst hcl;have hB:=zb_ w (.cells #[.slice na N.length nc,.slice xa M.length xc,.slice ya L.length yc] 30);have X:=Box.new w #[.slice na N.length nc,.slice xa M.length xc,.slice ya L.length yc] 30;have HEN:=fun k (hk:k<N.length) W (hb:Below w.heap.size w W)=>(h.ne k hk).below hb;have HEM:=fun k (hk:k<M.length) W (hb:Below w.heap.size w W)=>(h.me k hk).below hb;obtain⟨a1,c1,e1,hcN⟩:=h.n;obtain⟨a2,c2,e2,hcM⟩:=h.m;obtain⟨a3,c3,e3,hcL⟩:=h.l;simp only [Value.slice.injEq,true_and] at e1 e2 e3;obtain⟨rfl,rfl⟩:=e1;obtain⟨rfl,rfl⟩:=e2;obtain⟨rfl,rfl⟩:=e3;have hNl:=hs.n;have hMl:=hs.m;have hLl:=hs.l;clear h;clear hcM hcL HEM HEN hs;generalize goodC (N.map Nv.n) (M.map Mv.q) L=ok at*
 cases ok with
 | false=>
  clear hcN;show Calls Tryz.prog 17 _ w fun e w'=>e= .returned (.tuple #[(0:Int),false])∧Below w.heap.size w w';go_enter Tryz.func17,Tryz.ntmps17;go_wp2_with fail;refine K.mono ?_;rintro e w1 ⟨rfl,hb⟩;replace hB:=za_ hB hb;clear K hb;go_wp2;exact bodyPost_ret (v:= .tuple #[(0:Int),false]) (by simp [results,Tryz.results17,go_sem]) rfl ⟨rfl,hB⟩
 | true=>
 obtain⟨R,HR⟩:∃R,Hid (hiR true (N.map Nv.n)=R):=⟨hiR true (N.map Nv.n),rfl⟩;rw [HR.out];have HE:Hid (hiT (N.map Nv.n) N.length=R):=by show _=_;rw [←HR.out];simp [hiR]
 clear HR;go_enter Tryz.func17,Tryz.ntmps17;go_wp2_with fail;refine K.mono ?_;rintro e w1 ⟨rfl,hb⟩;replace hB:=za_ hB hb;replace X:=X.below hb;clear K hb;obtain⟨hxl,x0,x1,x2⟩:=X.c3;go_wp2;clear hxl x0 x1 x2 X
 go_loopw [4,13] (fun t i wr=>∃k:Nat,k≤N.length∧i= .int .i64 k∧t= .int .i64 (hiT (N.map Nv.n) k)∧Below w.heap.size w wr) (fun _ i _=>N.length-(intOf i).toNat)
 case atStart=>exact⟨0,Nat.zero_le _,rfl,rfl,hB⟩
 case round=>
  obtain⟨k,hk,rfl,rfl,hb⟩:=hrel;clear hB;by_cases hlt:k<N.length
  ·obtain⟨b,off,rfl,hbl,hcell⟩:=hcN (by intro e;simp [e] at hlt);obtain⟨z0,z1,z2,z3,z4,z5,z6,z7,z8⟩:=hcell k hlt;have hc0:=(hb.cell (p:=⟨b,off+k*9,none⟩) hbl).trans z0;have hc1:=(hb.cell (p:=⟨b,off+k*9+1,none⟩) hbl).trans z1;have hc2:=(hb.cell (p:=⟨b,off+k*9+2,none⟩) hbl).trans z2;have hc3:=(hb.cell (p:=⟨b,off+k*9+3,none⟩) hbl).trans z3;have hc4:=(hb.cell (p:=⟨b,off+k*9+4,none⟩) hbl).trans z4;have hc5:=(hb.cell (p:=⟨b,off+k*9+5,none⟩) hbl).trans z5;have hc6:=(hb.cell (p:=⟨b,off+k*9+6,none⟩) hbl).trans z6;have hc7:=(hb.cell (p:=⟨b,off+k*9+7,none⟩) hbl).trans z7;have hc8:=(hb.cell (p:=⟨b,off+k*9+8,none⟩) hbl).trans z8;have HH:Hid (hiT (N.map Nv.n) (k+1)=if hiT (N.map Nv.n) k<N[k].n.te then N[k].n.te else hiT (N.map Nv.n) k):=by show _=_;simp only [hiT];rw [hiT_at N k hlt]
   clear hcell hcN HE z0 z1 z2 z3 z4 z5 z6 z7 z8;generalize N[k]=s at*;generalize hiT (N.map Nv.n) k=z at*;obtain⟨⟨id,pe,te,vo,co,ro,log,vs,mt⟩,la,lc,va,vc,ma,mc⟩:=s;dsimp only at hc0 hc1 hc2 hc3 hc4 hc5 hc6 hc7 hc8 HH;have hz:=hb.size;have hB0:=hb.alloc hz (.cells #[id,pe,te,vo,.slice la log.length lc,co,ro,.slice va vs.length vc,.slice ma mt.length mc] 42);clear hb;by_cases hlt2:z<te
   ·have HV:Hid (hiT (N.map Nv.n) (k+1)=te):=by show _=_;rw [HH.out,if_pos hlt2]
    clear HH;go_wp2;go_roundw
    case rel=>exact⟨k+1,by omega,by go_num,by rw [HV.out],hB0⟩
    case measure=>simp [intOf];omega
   ·have HV:Hid (hiT (N.map Nv.n) (k+1)=z):=by show _=_;rw [HH.out,if_neg hlt2]
    clear HH;go_wp2;go_roundw
    case rel=>exact⟨k+1,by omega,by go_num,by rw [HV.out],hB0⟩
    case measure=>simp [intOf];omega
  ·obtain rfl:k=N.length:=by omega
   have HV:=HE.out;clear hcN HE;rw [HV];go_wp2;exact bodyPost_ret (v:= .tuple #[R,true]) (by simp [results,Tryz.results17,go_sem]) rfl ⟨rfl,hb⟩
theorem hiT_le (N:List Nd):∀k j,j<k→(N.getD j Nd.zero).te≤hiT N k:=by
 intro k
 induction k with
 | zero=>intro j h;omega
 | succ k ih=>
  intro j h;by_cases hj:j=k
  ·subst hj;unfold hiT
   split <;>omega
  ·have:=ih j (by omega);unfold hiT
   split <;>omega
theorem law6 (v:Value) (l:List UInt8) (w:World) (hv:YL w v l) (hl:l.length≤9223372036854775807):
  Calls Tryz.prog 6 #[v] w fun e w'=>e= .returned (.bool true)∧Below w.heap.size w w':=by
 have DR:=drawPC_any v l w hv hl;obtain⟨a,cap,rfl,_⟩:=hv;go_enter Tryz.func6,Tryz.ntmps6;by_cases hsz:(1048576:Int)<(l.length:Int)
 ·clear DR;go_wp2;go_ret;exact⟨rfl,Below.refl _ _⟩
 go_wp2_with fail;refine DR.mono ?_;rintro e w0 ⟨⟨pe,sv,L,rfl,oL,hlen,hd⟩,hB⟩;have hz0:=hB.size;clear DR;have PY:=played_any pe sv L w0 _ oL (by omega) (drawn_short hd);obtain⟨sa,sc,rfl⟩:=ze_ oL;have RB:=fun {N:List Nv} {M:List Mv} =>plR_bnd pe L (N:=N) (M:=M);have RF:plOk pe L=true→1≤pe∧pe≤7∧PF pe.toNat (plR (plOk pe L) pe.toNat L):=fun h=>by have:=plR_pf h;rw [h];exact this
 generalize plR (plOk pe L) pe.toNat L=R at*;generalize plOk pe L=ok at*;obtain⟨Rn,Rm,Rl⟩:=R;dsimp only at RB RF;clear hd oL;go_wp2_with fail;refine PY.mono ?_;rintro e w1 ⟨⟨un,um,ul,N,M,rfl,O,hN,hM⟩,hb⟩;dsimp only at O hN hM;have hCS:=(RB hN hM).1;replace hB:=za_ hB hb;have hz1:=hb.size;clear hb PY RB;obtain⟨⟨na,nc,h1⟩,⟨ma,mc,h2⟩,la,lc,h3⟩:=O.shapes;subst h1 h2 h3;obtain⟨Wp,hWp⟩:∃W,W=w1.alloc (.cells #[.slice na N.length nc,.slice ma M.length mc,.slice la Rl.length lc] 30):=⟨_,rfl⟩;have bx:=zb_ w1 (.cells #[.slice na N.length nc,.slice ma M.length mc,.slice la Rl.length lc] 30);have P:=Box.new w1 #[.slice na N.length nc,.slice ma M.length mc,.slice la Rl.length lc] 30;rw [←hWp] at bx P;replace O:=O.below bx;replace hB:=za_ hB bx;have hz2:=bx.size;clear bx
 cases ok with
 | false=>
  clear RF O P hN hM hCS;go_wp2;go_ret;exact⟨rfl,by rw [←hWp];exact hB⟩
 | true=>
  obtain⟨p1,p7,PFh⟩:=RF rfl;have G:goodC (N.map Nv.n) (M.map Mv.q) Rl=true:=by rw [hN,hM];exact PFh.g.good
  have K:=implHi_any _ _ _ N M Rl Wp O.cr hCS;rw [G] at K;simp only [hiR,if_true] at K;have hT:∀j (h:j<N.length),N[j].n.te≤hiT (N.map Nv.n) (N.map Nv.n).length:=fun j h=>by
   have:=hiT_le (N.map Nv.n) (N.map Nv.n).length j (by simpa using h);rw [hiT_at N j h] at this;exact this
  generalize hiT (N.map Nv.n) (N.map Nv.n).length=T at*;have GC:=(goodC_co G).2.2;have FC:=fun i j hi hj ri ht=>PFh.f.complete i j hi hj ri ht;rw [←hN] at FC;have HN:Hid (∀i j (hi:i<N.length) (hj:j<N.length),N[i].n.ro=2→N[i].n.te=T→∃c:Nat,N[j].n.co=(c:Int)∧Has N[j].n.log N[i].n.log c):=fun i j hi hj r e=>by
   have h:=FC i j (by simpa using hi) (by simpa using hj) (by simpa using r) (by simp only [List.getElem_map];rw [e];exact hT j hj);simp only [List.getElem_map] at h;exact⟨N[j].n.co.toNat,by have:=(GC j hj).1;omega,h⟩
  have HCP:∀i (h:i<N.length),N[i].n.log.length≤N[i].lc:=fun i h=>by obtain⟨_,_,q,_⟩:=O.cn.at i h;exact (owns_cap q.l).1
  obtain⟨a1,c1,e1,HC⟩:=O.cr.n;injection e1 with e1 f1 g1;subst e1 g1;clear f1;have HE:=O.cr.ne;have nN:=hCS.n;have nE:=hCS.ne;clear FC GC G hT PFh RF hN hM hCS O;obtain⟨xl,x0,x1,x2⟩:=P.c3;go_wp2_with fail;rw [←hWp];clear hWp;refine K.mono ?_;rintro e W2 ⟨rfl,hb⟩;replace P:=P.below hb;replace hB:=za_ hB hb;have hz3:=hb.size;clear K xl x0 x1 x2;obtain⟨xl,x0,x1,x2⟩:=P.c3;clear P;have HB:Hid (Below w.heap.size w W2):=hB;have HBp:Hid (Below Wp.heap.size Wp W2):=hb;clear hB hb;go_wp2_with fail
  go_loopw [46] (fun i wr=>∃k:Nat,k≤N.length∧i= .int .i64 k∧Below W2.heap.size W2 wr) (fun i _=>N.length-(intOf i).toNat)
  case atStart=>exact⟨0,Nat.zero_le _,rfl,Below.refl _ _⟩
  case round=>
   obtain⟨i,hi,rfl,hb⟩:=hrel;by_cases hlt:i<N.length;rotate_left
   ·have HF:Hid (Below w.heap.size w wr):=HB.out.trans (hb.mono (by omega));clear HC HE nE HN HB HBp x0 x1 x2;go_wp2;go_ret;exact⟨rfl,HF.out⟩
   obtain⟨b,off,rfl,hbl,hcell⟩:=HC (by intro e;simp [e] at hlt);have hil:(i:Int)<(N.length:Int):=by omega
   have hbp0:=HBp.out.trans (hb.mono (show Wp.heap.size≤W2.heap.size from hz3));obtain⟨z0,z1,z2,z3,z4,z5,z6,z7,z8⟩:=hcell i hlt;have hc0:=(hbp0.cell (p:=⟨b,off+i*9,none⟩) hbl).trans z0;have hc1:=(hbp0.cell (p:=⟨b,off+i*9+1,none⟩) hbl).trans z1;have hc2:=(hbp0.cell (p:=⟨b,off+i*9+2,none⟩) hbl).trans z2;have hc3:=(hbp0.cell (p:=⟨b,off+i*9+3,none⟩) hbl).trans z3;have hc4:=(hbp0.cell (p:=⟨b,off+i*9+4,none⟩) hbl).trans z4;have hc5:=(hbp0.cell (p:=⟨b,off+i*9+5,none⟩) hbl).trans z5;have hc6:=(hbp0.cell (p:=⟨b,off+i*9+6,none⟩) hbl).trans z6;have hc7:=(hbp0.cell (p:=⟨b,off+i*9+7,none⟩) hbl).trans z7;have hc8:=(hbp0.cell (p:=⟨b,off+i*9+8,none⟩) hbl).trans z8;have hE:=(HE i hlt).below hbp0;have hnA:=(nE i hlt).1;have hcA:=HCP i hlt;have HNi:Hid (∀j (hj:j<N.length),N[i].n.ro=2→N[i].n.te=T→∃c:Nat,N[j].n.co=(c:Int)∧Has N[j].n.log N[i].n.log c):=fun j hj=>HN.out i j hlt hj;clear z0 z1 z2 z3 z4 z5 z6 z7 z8;generalize N[i]=s at*;obtain⟨⟨idA,peA,teA,voA,coA,roA,logA,vsA,mtA⟩,laA,lcA,vaA,vcA,maA,mcA⟩:=s;dsimp only at hc0 hc1 hc2 hc3 hc4 hc5 hc6 hc7 hc8 hE hnA hcA HNi;have X0:=(hb.cell (p:=⟨w1.heap.size,0,none⟩) xl).trans x0;have hz:=hb.size;have BA:=zb_ wr (.cells #[idA,peA,teA,voA,.slice laA logA.length lcA,coA,roA,.slice vaA vsA.length vcA,.slice maA mtA.length mcA] 42);have A:=Box.new wr #[idA,peA,teA,voA,.slice laA logA.length lcA,coA,roA,.slice vaA vsA.length vcA,.slice maA mtA.length mcA] 42;have hbA:=za_ hb BA;replace X0:=(BA.cell (p:=⟨w1.heap.size,0,none⟩) (by show w1.heap.size<_;omega)).trans X0;replace hE:=hE.below BA;obtain⟨ql,q0,q1,q2,q3,q4,q5,q6,q7,q8⟩:=A.e9;obtain⟨WA,hWA⟩:∃W,W=wr.alloc (.cells #[idA,peA,teA,voA,.slice laA logA.length lcA,coA,roA,.slice vaA vsA.length vcA,.slice maA mtA.length mcA] 42):=⟨_,rfl⟩;have hzA:wr.heap.size+1=WA.heap.size:=by rw [hWA];simp
   have hbA':Hid (Below W2.heap.size W2 WA):=by rw [hWA];exact hbA
   have A':Hid (Box WA wr.heap.size [idA,peA,teA,voA,.slice laA logA.length lcA,coA,roA,.slice vaA vsA.length vcA,.slice maA mtA.length mcA]):=by rw [hWA];exact A
   have hE':Hid (NE WA ⟨⟨idA,peA,teA,voA,coA,roA,logA,vsA,mtA⟩,laA,lcA,vaA,vcA,maA,mcA⟩):=by rw [hWA];exact hE
   clear BA A hbA hE;by_cases hro:roA=2;rotate_left
   ·have HF:Hid (Below W2.heap.size W2 WA):=hbA';clear HC HE nE HN HB HBp x0 x1 x2 HNi A' hE' hbA' X0;go_wp2
    try rw [←hWA]
    go_roundw
    case rel=>exact⟨i+1,by omega,by go_num,HF.out⟩
    case measure=>simp [intOf];omega
   subst hro;by_cases hte:teA=T;rotate_left
   ·have HF:Hid (Below W2.heap.size W2 WA):=hbA';clear HC HE nE HN HB HBp x0 x1 x2 HNi A' hE' hbA' X0;go_wp2
    try rw [←hWA]
    go_roundw
    case rel=>exact⟨i+1,by omega,by go_num,HF.out⟩
    case measure=>simp [intOf];omega
   subst hte;go_wp2;rw [←hWA];clear hWA hc0 hc1 hc2 hc3 hc4 hc5 hc6 hc7 hc8 X0 ql q0 q1 q2 q3 q4 q5 q6 q7 q8;generalize wr.heap.size=ga at*;have hbA:=hbA'.out;have A:=A'.out;have hE:=hE'.out;clear hbA' A' hE'
   go_loopw [62] (fun q wm=>∃j:Nat,j≤N.length∧q= .int .i64 j∧Below WA.heap.size WA wm) (fun q _=>N.length-(intOf q).toNat)
   case atStart=>exact⟨0,Nat.zero_le _,rfl,Below.refl _ _⟩
   case round=>
    obtain⟨j,hj,rfl,hbm⟩:=hrel;by_cases hlj:j<N.length;rotate_left
    ·have HF:Hid (Below W2.heap.size W2 wr):=hbA.trans (hbm.mono hbA.size);clear HC HE nE HN HB HBp x0 x1 x2 HNi A hE hcell hbA hbm hbp0;go_wp2;go_roundw
     case rel=>exact⟨i+1,by omega,by go_num,HF.out⟩
     case measure=>simp [intOf];omega
    have hjl:(j:Int)<(N.length:Int):=by omega
    obtain⟨z0,z1,z2,z3,z4,z5,z6,z7,z8⟩:=hcell j hlj;have hbq:=hbA.trans (hbm.mono hbA.size);have hbp:=HBp.out.trans (hbq.mono hz3);have hd0:=(hbp.cell (p:=⟨b,off+j*9,none⟩) hbl).trans z0;have hd1:=(hbp.cell (p:=⟨b,off+j*9+1,none⟩) hbl).trans z1;have hd2:=(hbp.cell (p:=⟨b,off+j*9+2,none⟩) hbl).trans z2;have hd3:=(hbp.cell (p:=⟨b,off+j*9+3,none⟩) hbl).trans z3;have hd4:=(hbp.cell (p:=⟨b,off+j*9+4,none⟩) hbl).trans z4;have hd5:=(hbp.cell (p:=⟨b,off+j*9+5,none⟩) hbl).trans z5;have hd6:=(hbp.cell (p:=⟨b,off+j*9+6,none⟩) hbl).trans z6;have hd7:=(hbp.cell (p:=⟨b,off+j*9+7,none⟩) hbl).trans z7;have hd8:=(hbp.cell (p:=⟨b,off+j*9+8,none⟩) hbl).trans z8;have hG:=(HE j hlj).below hbp;have hnB:=(nE j hlj).1;have hcB:=HCP j hlj;obtain⟨c,hcc,hHas⟩:=HNi.out j hlj (by trivial) (by trivial);clear z0 z1 z2 z3 z4 z5 z6 z7 z8;generalize N[j]=s at*;obtain⟨⟨idB,peB,teB,voB,coB,roB,logB,vsB,mtB⟩,laB,lcB,vaB,vcB,maB,mcB⟩:=s;dsimp only at hd0 hd1 hd2 hd3 hd4 hd5 hd6 hd7 hd8 hG hnB hcB hcc hHas;subst hcc;obtain⟨g1,g2,g3⟩:=hHas;have hzm:=hbm.size;have BB:=zb_ wr (.cells #[idB,peB,teB,voB,.slice laB logB.length lcB,c,roB,.slice vaB vsB.length vcB,.slice maB mtB.length mcB] 42);have Bx:=Box.new wr #[idB,peB,teB,voB,.slice laB logB.length lcB,c,roB,.slice vaB vsB.length vcB,.slice maB mtB.length mcB] 42;have hbB:=za_ hbm BB;have Ax:=(A.below hbm).below BB;have hEA:=(hE.1.below hbm).below BB;have hEB:=hG.1.below BB;obtain⟨WB,hWB⟩:∃W,W=wr.alloc (.cells #[idB,peB,teB,voB,.slice laB logB.length lcB,c,roB,.slice vaB vsB.length vcB,.slice maB mtB.length mcB] 42):=⟨_,rfl⟩;have HBB:Hid (Below WA.heap.size WA WB):=by rw [hWB];exact hbB
    have hzB:wr.heap.size+1=WB.heap.size:=by rw [hWB];simp
    rw [←hWB] at Ax Bx hEA hEB;clear BB hbB hG hbq hbp hbp0 hbm;have gi1:(c:Int)≤(logB.length:Int):=by omega
    have gi2:(c:Int)≤(logA.length:Int):=by omega
    have gi3:decide ((logA.length:Int)<(c:Int))=false:=decide_eq_false (by omega);have gi4:(c:Int)≤(lcA:Int):=by omega
    have gi5:(c:Int)≤(lcB:Int):=by omega
    have gi6:(0:Int)≤(c:Int):=by omega
    have gi7:¬(logA.length:Int)<(c:Int):=by omega
    have hLn:(logA.take c).length=c:=by rw [List.length_take];omega
    have KF:Hid (∀(W:World) (h:Below WB.heap.size WB W),Calls Tryz.prog 13 #[.slice laB c lcB,.slice laA c lcA] W fun e w'=>e= .returned (.bool true)∧Below W.heap.size W w'):=fun W h=>sameEntries_same (.slice laB c lcB) (.slice laA c lcA) (logA.take c) W (by rw [←g3];exact ER_to (hEB.below h) (by omega)) (ER_to (hEA.below h) (by omega)) (by rw [hLn];omega);have HK:Hid (∀W,Below WB.heap.size WB W→Below WA.heap.size WA W):=fun W h=>HBB.out.trans (h.mono (by omega));go_wp2_with fail;rw [←hWB];clear hWB hd0 hd1 hd2 hd3 hd4 hd5 hd6 hd7 hd8 HC HE nE HN HB HBp x0 x1 x2 HNi A hE hcell hEA hEB hbA hb HBB g3 hLn xl;generalize wr.heap.size=gb at*;obtain⟨al,q0,q1,q2,q3,q4,q5,q6,q7,q8⟩:=Ax.e9;obtain⟨bl,r0,r1,r2,r3,r4,r5,r6,r7,r8⟩:=Bx.e9;clear q0 q1 q2 q3 q5 q6 q7 q8 r0 r1 r2 r3 r6 r7 r8 Ax Bx;have gj:decide (logA.length<c)=false:=decide_eq_false (by omega)
    go_region_held3 (fun w'=>w'.cell? ⟨ga,4,none⟩=some (.slice laA logA.length lcA)∧w'.cell? ⟨gb,4,none⟩=some (.slice laB logB.length lcB)∧w'.cell? ⟨gb,5,none⟩=some (.int .i64 c)) (go_keep)
     (first | (go_at_call 13;refine (KF.out _ (Below.refl _ _).drew).mono ?_;rintro e wc ⟨rfl,hb1'⟩;have hb1:=below_undrew hb1';replace q4:=(hb1.cell (p:=⟨ga,4,none⟩) al).trans q4;replace r4:=(hb1.cell (p:=⟨gb,4,none⟩) bl).trans r4;replace r5:=(hb1.cell (p:=⟨gb,5,none⟩) bl).trans r5))
    go_wp2;go_roundw
    case rel=>exact⟨j+1,by omega,by go_num,HK.out _ hb1⟩
    case measure=>simp [intOf];omega
end Go.Proofs.YtapfhhmimkkhnaaGreat
namespace Go.Proofs.YtapfhhmimkkhnaaGreat
open Go.RowKit Go.ChangeShapes Go.WideShapes Go.ChangeAt
set_option maxRecDepth 100000
theorem YL_of_trod {H:Type} {enc:TypeId×Value→H} {P:Program} {w:World} {base:Nat} {spare:Nat→Bool} {held:Bool} {t e:TypeId} {fuel:Nat} {v:Value} {x:DataW H×List MemPlace}
  (ht:P.underlying t=some (.slice e)) (he:P.underlying e=some (.int .u8)) (ce:P.cellsOf e=1)
  (h:DataW.trod enc P w base spare held fuel t [v]=some x):
  ∃l:List UInt8,YL w v l∧l.length≤maxLen:=by
 rcases open_ints ht he ce h with⟨hv,_⟩ | ⟨a,len,cap,zs,hv,hb,hl,hm,hz,hx,hcell,hws⟩
 ·simp only [List.cons.injEq,and_true] at hv;subst hv;exact⟨[],⟨none,0,rfl,fun h=>absurd rfl h⟩,by simp⟩
 ·simp only [List.cons.injEq,and_true] at hv;subst hv;have hls:len≤zs.length:=by rw [hz];split <;>omega
  have hlen:((zs.take len).map fun z=>UInt8.ofNat z.toNat).length=len:=by simp;omega
  refine⟨(zs.take len).map fun z=>UInt8.ofNat z.toNat,⟨some a,cap,by rw [hlen],fun hne=> ?_⟩,by rw [hlen];omega⟩;have hpos:0<len:=by
   rcases Nat.eq_zero_or_pos len with h0 | h0
   ·subst h0;simp at hne
   ·exact h0
  have hc0:=hcell 0 (by omega);have hsp:a.spot=none:=by
   have:=World.cell?_spot hc0;simpa [Addr.add] using this
  obtain⟨b,off,spot⟩:=a;simp only at hsp;subst hsp;have hbl:=World.block_lt_of_cell? _ _ hc0;refine⟨b,off,rfl,by simpa [Addr.add] using hbl,fun i hi=> ?_⟩;have hi':i<len:=by omega
  have hk:=hcell i (by omega);have hwf:=hws (zs.getD i 0) (by rw [List.getD_eq_getElem?_getD,List.getElem?_eq_getElem (by omega),Option.getD_some];exact List.getElem_mem _);have hr:0≤zs.getD i 0∧zs.getD i 0≤255:=by
   simp only [Lit.wf,Bool.and_eq_true,decide_eq_true_eq] at hwf;exact⟨hwf.1,hwf.2⟩
  have hg:(((zs.take len).map fun z=>UInt8.ofNat z.toNat)[i].toNat:Int)=zs.getD i 0:=by
   rw [List.getElem_map,List.getElem_take,UInt8.toNat_ofNat'];have e:zs[i]'(by omega)=zs.getD i 0:=by rw [List.getD_eq_getElem?_getD,List.getElem?_eq_getElem (by omega),Option.getD_some]
   rw [e];omega
  rw [hg,←hk];congr 1;by_cases h0:i=0
  ·subst h0;simp [Addr.add]
  ·simp [Addr.add,h0]
end Go.Proofs.YtapfhhmimkkhnaaGreat
