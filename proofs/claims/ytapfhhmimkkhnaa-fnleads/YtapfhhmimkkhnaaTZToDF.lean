/-
  Zero steps appended to a row of one's own.
  The draw of a play: clusterSteps, DrawPlayCluster.
-/
import Derived.Test.YtapfhhmimkkhnaaTSToDE
import Derived.Test.YtapfhhmimkkhnaaVIToSP
import Derived.Lib.AppendZerosOnto
import Derived.Lib.AppendZeros
import Derived.Test.YtapfhhmimkkhnaaCWToHM
import Derived.Deep.Cut
import Derived.Deep.CutRange
import Derived.Deep.CutBlock
import Derived.Deep.RegionHeld3
namespace Go.Proofs.Ytapfhhmimkkhnaa
open Go.RowKit Go.Maps
set_option linter.unusedVariables false
set_option maxRecDepth 100000
set_option maxHeartbeats 2000000
theorem zerosT (k:Nat):(Builtin.zeroCells (Value.agg #[(0:Int),(0:Int),(0:Int),(0:Int),.string ⟨#[]⟩]).cells k).toList=flT (List.replicate k Sp.zero):=by
 rw [←flT_zeros]
 rfl
theorem oneT:∀(L:List Sp),∀u∈flT L,u.oneCell'=true
 | [],_,h=>by cases h
 | s::r,u,h=>by
  simp only [flT,List.mem_cons] at h;rcases h with rfl | rfl | rfl | rfl | rfl | h
  all_goals first | rfl | exact oneT r u h
theorem zeros_own (w:World) (base n:Nat) (v:Value) (L:List Sp) (ho:w.ownsRow base 154 5 v n (flT L)) (hn:n=L.length) (k:Nat) (hk:0<k) (hb:n+k≤2000) (hbase:base≤w.heap.size):
  ∃v' w',(∀ty,(Builtin.append_ #[130,3] ty #[v,k]).run Try.prog w= .ok v' w')∧w'.ownsRow base 154 5 v' (n+k) (flT (L++List.replicate k Sp.zero))∧w.grownBy w' v.ownBlock:=by
 obtain⟨i0,hi,hz0,hzs,hzb⟩:=info_parts Try.info154;obtain⟨Zs,hZs⟩:∃Zs,Zs=flT (List.replicate k Sp.zero):=⟨_,rfl⟩;have hZl:Zs.length=k*5:=by rw [hZs,flT_length];simp
 have hZc:(Builtin.zeroCells (Value.agg #[(0:Int),(0:Int),(0:Int),(0:Int),.string ⟨#[]⟩]).cells k)=Zs.toArray:=by
  rw [hZs,←zerosT]
 have hfl:flT (L++List.replicate k Sp.zero)=flT L++Zs:=by rw [flT_append,hZs]
 have h1:∀u∈Zs,u.oneCell'=true:=by rw [hZs];exact oneT _
 rw [hfl];have hlen:(flT L++Zs).length=(n+k)*5:=by rw [List.length_append,ho.1,hZl];omega
 clear hZs hfl;have fresh:∀(bs:Option Addr) (old:Nat),old<n+k→(Builtin.firstCells i0.size n (.slice bs n old)).run Try.prog w.drew= .ok (flT L).toArray w.drew→
   ∃v' w',(∀ty,(Builtin.append_ #[130,3] ty #[.slice bs n old,k]).run Try.prog w= .ok v' w')∧w'.ownsRow base 154 5 v' (n+k) (flT L++Zs)∧∀row,w.grownBy w' row:=by
  intro bs old hlt hold;have hr:=fun ty=>Lib.run_append_grow_zeros w 130 3 ty 154 i0 _ .i64 .i64 Try.underlying130 Try.underlying3 hi hz0 bs n old (flT L) hold k hk (by rw [hzs];omega) hlt (by omega) (by rw [hzb];omega) (by rw [hzb];exact growslice_fits (by omega) (by omega));rw [hZc] at hr;have hge:=grownCap_ge w (n+k) old 154;have hcm:=grownCap_le_maxLen w (n+k) old 154 (by unfold maxLen;omega);generalize grownCap w (n+k) old 154=C at*;refine⟨_,_,hr,⟨hlen,.inr ⟨w.heap.size,C,_,rfl,hbase,heap_alloc_new w.drew _,hge,hcm,?_,?_⟩⟩,fun row=>⟨rfl,rfl,rfl,by simp,fun j hj _=>heap_alloc_old w.drew _ hj⟩⟩
  ·simp only [Array.size_append,List.size_toArray,size_zeroCells,ho.1,hZl];simp [Value.cells];omega
  ·simp only [Array.toList_append,List.append_assoc];rw [←List.append_assoc,←hlen];exact List.take_left
 rcases ho.2 with⟨rfl,h0⟩ | ⟨g,cap,cur,rfl,hbg,hg,hnc,hcm,hcs,htk⟩
 ·have hL0:L= []:=List.length_eq_zero_iff.1 (by omega);subst hL0;subst h0;obtain⟨v',w',a,b,c⟩:=fresh none 0 (by omega) (by simp [Builtin.firstCells,flT]);exact⟨v',w',a,b,c _⟩
 ·by_cases hroom:n+k≤cap
  ·have hfit:n*5+Zs.length≤cur.size:=by rw [hZl,hcs];omega
   have hst:=run_storeCells_at Try.prog g (n*5) 154 Zs 0 cur w hg (by simpa using hfit) h1;simp only [Nat.add_zero] at hst;have hw:IntKind.i64.wrap (k:Int)=k:=by rw [IntKind.wrap_i64];omega
   have hneg:¬((k:Int)<0):=by omega
   have h48:¬(281474976710656<(k:Int)*(i0.bytes:Int)):=by rw [hzb];omega
   have hns:¬(k*i0.size=0):=by rw [hzs];omega
   have hrun:∀ty,(Builtin.append_ #[130,3] ty #[.slice (some ⟨g,0,none⟩) n cap,k]).run Try.prog w= .ok (.slice (some ⟨g,0,none⟩) (n+k) cap) (w.setRow g (cur.toList.take (n*5)++Zs++cur.toList.drop (n*5+Zs.length)).toArray):=fun ty=>by
    simp [Builtin.append_,run_underlying Try.underlying130,run_underlying Try.underlying3,sizeOf,typeInfo,zeroValue,hi,hz0,asInt,asIntOf,hw,hneg,h48,hroom,hzs,Addr.add_lit,hst,hZc];omega
   refine⟨_,_,hrun,⟨hlen,.inr ⟨g,cap,_,rfl,hbg,setRow_heap w g cur _ 154 _ hg,hroom,hcm,?_,?_⟩⟩,⟨rfl,rfl,rfl,by simp,fun j _ hj=>setRow_other w g j _ (fun e=>hj (by simp [Value.ownBlock,e]))⟩⟩
   ·simp only [List.size_toArray,List.length_append,List.length_take,List.length_drop,Array.length_toList];omega
   ·rw [htk,←hlen];exact List.take_left
  ·have hd:=ho.drew;have hold:(Builtin.firstCells i0.size n (.slice (some ⟨g,0,none⟩) n cap)).run Try.prog w.drew= .ok (flT L).toArray w.drew:=
    run_firstCells_some (P:=Try.prog) w.drew i0.size n ⟨g,0,none⟩ n cap (flT L) (by rw [ho.1,hzs]) (hd.cells (g:=g) rfl)
   obtain⟨v',w',a,b,c⟩:=fresh (some ⟨g,0,none⟩) cap (by omega) hold;exact⟨v',w',a,b,c _⟩
set_option maxHeartbeats 8000000
theorem steps_any (b:Nat) (l:List UInt8) (K pe:Nat) (w:World) (h:Cur w b l K) (hl:l.length≤9223372036854775807) (hK:K≤100000) (hp1:1≤pe) (hp:pe≤5):
  Calls Try.prog 118 #[.pointer (some ⟨b,0,none⟩),pe] w fun e w'=>(∃v L,e= .returned v∧w'.ownsRow w.heap.size 154 5 v L.length (flT L)∧L.length≤1000∧∀s∈L,s.d.size≤1)∧Cur w' b l (K+20000)∧Chg (· =b) w w':=by
 have hbl:=h.lt;go_enter Try.func118,Try.ntmps118;go_wp2_with fail;refine (zl_ b l K 5 _ h hl (by omega) (by omega)).mono ?_;rintro e w1 ⟨⟨n0,rfl,hn0⟩,hc1,hch⟩;have hz1:=hch.size;have hn4:n0≤4:=by omega
 have hc:=hc1.mono (show K+2≤K+2+1000*(4-n0) from by omega);clear h hc1 hn0;go_wp2
 go_loopw [5,6] (fun v i wr=>∃(L:List Sp) (q:Nat),wr.ownsRow w.heap.size 154 5 v L.length (flT L)∧L.length≤60*(4-q)∧(∀s∈L,s.d.size≤1)∧Cur wr b l (K+2+1000*(4-q))∧Chg (· =b) w wr∧i= .int .i64 q∧q≤4∧w.heap.size≤wr.heap.size) (fun _ i _=>(intOf i).toNat)
 case atStart=>exact⟨[],n0,World.ownsRow_nil _ _ _ _,Nat.zero_le _,(fun s hs=>by cases hs),hc,hch,rfl,hn4,hz1⟩
 case round=>
  clear hc hch hz1;obtain⟨L,q,oL,hlen,hL,hc,hch,rfl,hq4,hzr⟩:=hrel;obtain⟨va,vc,rfl⟩:=zf_ oL;by_cases hlt:0<q
  ·have hlt2:(0:Int)<(q:Int):=by omega
   obtain⟨KQ,hKQ⟩:∃KQ,Hid (K+2+1000*(4-q)=KQ):=⟨_,rfl⟩;have hKq:KQ+1000≤K+2+1000*(4-(q-1)):=by have:=hKQ.out;omega
   have hKb:KQ≤K+5000:=by have:=hKQ.out;omega
   rw [hKQ.out] at hc;clear hKQ;go_wp2_with fail;refine (one_any b l _ 3 _ hc hl (by omega) (by omega)).mono ?_;rintro e w2 ⟨⟨x2,rfl⟩,hc1,hch1⟩;replace oL:=hch1.owns oL (fun x hx hh=>by have:=ze_ oL x hx;have hh:x=b:=hh;omega);replace hch:=hch.trans hch1;have hz2:=hch1.size;clear hc hch1;go_upto_if 16 with fail
   go_cut [5] from 10 to 36 (fun s5 wc=>∃(L:List Sp),wc.ownsRow w.heap.size 154 5 s5 L.length (flT L)∧L.length≤60*(4-q)+40∧(∀s∈L,s.d.size≤1)∧Cur wc b l (KQ+2+2+40)∧Chg (· =b) w wc∧w.heap.size≤wc.heap.size)
   case first=>
    cases x2 with
    | true=>
     have hc2:=hc1.mono (show KQ+2≤KQ+2+2+40 from by omega);clear hc1;go_wp2_with fail;go_meet
     case rel=>exact⟨L,oL,by omega,hL,hc2,hch,by omega⟩
    | false=>
     go_wp2_with fail;refine (zl_ b l _ pe _ hc1 hl (by omega) (by omega)).mono ?_;rintro e w3 ⟨⟨x3,rfl,hx3⟩,hc2,hch2⟩;replace oL:=hch2.owns oL (fun x hx hh=>by have:=ze_ oL x hx;have hh:x=b:=hh;omega);replace hch:=hch.trans hch2;have hz3:=hch2.size;clear hc1 hch2 hx3;go_wp2_with fail;refine (elected_any b l _ pe x3 _ hc2 hl (by omega) hp1 hp).mono ?_;rintro e w4 ⟨⟨ev,EL,rfl,oE,hEl,hEd⟩,hc3,hch3⟩;replace oL:=hch3.owns oL (fun x hx hh=>by have:=ze_ oL x hx;have hh:x=b:=hh;omega);replace hch:=hch.trans hch3;have hz4:=hch3.size;clear hc2 hch3;obtain⟨ea,ec,rfl⟩:=zf_ oE;have TE:=TR_of_owns oE rfl;go_wp2_with (at_builtin;refine zB_.go ?_);unfold zB_;refine wpList_append_Ts _ rfl _ _ rfl rfl w.heap.size _ L.length L rfl oL _ EL rfl TE (by omega) (by omega) ?_;intro v9 w9 o9 hgr9 _;have hC9:=zm_ hgr9;have hz9:=hC9.size;have hB9:Below w.heap.size w4 w9:=hC9.below (by omega) (fun q hq=>ze_ oL q hq);have hc9:=zI_ hc3 hbl hB9;have hch9:=hch.nextC hC9 (fun q hq=> .inr (ze_ oL q hq));have HL9:∀s∈L++EL,s.d.size≤1:=fun s hs=>(List.mem_append.1 hs).elim (hL s) (hEd s);have hl9:(L++EL).length=L.length+EL.length:=by simp
     rw [←hl9] at o9;generalize hL9:L++EL=L9 at*;have hlen9:L9.length≤60*(4-q)+40:=by omega
     have hzw:w.heap.size≤w9.heap.size:=by omega
     clear hgr9 hC9 hB9 oL hL9 TE oE hc3 hch hEd hL;go_wp2_with fail;go_meet
     case rel=>exact⟨L9,o9,hlen9,HL9,hc9,hch9,hzw⟩
   case rest=>
    clear oL hc1 hch hL hlen;obtain⟨L,oL,hlen,hL,hc,hch,hzc⟩:=hcut;obtain⟨va,vc,rfl⟩:=zf_ oL;generalize wc=w5 at*;go_wp2_with fail;refine (zl_ b l _ 14 _ hc hl (by omega) (by omega)).mono ?_;rintro e w6 ⟨⟨k0,rfl,hk0⟩,hc1,hch1⟩;replace oL:=hch1.owns oL (fun x hx hh=>by have:=ze_ oL x hx;have hh:x=b:=hh;omega);replace hch:=hch.trans hch1;have hz6:=hch1.size;have hk13:k0≤13:=by omega
    have hc:=hc1.mono (show KQ+2+2+40+2≤KQ+100+40*(13-k0) from by omega);have hlen2:L.length≤60*(4-q)+40+(13-k0):=by omega
    clear hc1 hch1 hk0 hlen;go_wp2
    go_loopw [5,7] (fun v i wx=>∃(L:List Sp) (m:Nat),wx.ownsRow w.heap.size 154 5 v L.length (flT L)∧L.length≤60*(4-q)+40+(13-m)∧(∀s∈L,s.d.size≤1)∧Cur wx b l (KQ+100+40*(13-m))∧Chg (· =b) w wx∧i= .int .i64 m∧m≤13∧w.heap.size≤wx.heap.size) (fun _ i _=>(intOf i).toNat)
    case atStart=>exact⟨L,k0,oL,hlen2,hL,hc,hch,rfl,hk13,by omega⟩
    case round=>
     clear oL hlen2 hL hc hch hz6;obtain⟨L,m,oL,hlen,hL,hc,hch,rfl,hm13,hzx⟩:=hrel;obtain⟨va,vc,rfl⟩:=zf_ oL;by_cases hlt3:0<m
     ·have hlt4:(0:Int)<(m:Int):=by omega
      go_wp2_with fail;refine (clusterStep_any b l _ pe _ hc hl (by omega) hp).mono ?_;rintro e w7 ⟨⟨s,rfl,hs1⟩,hc1,hch1⟩;replace oL:=hch1.owns oL (fun x hx hh=>by have:=ze_ oL x hx;have hh:x=b:=hh;omega);replace hch:=hch.trans hch1;have hz7:=hch1.size;clear hc hch1;have hc:=hc1.mono (show KQ+100+40*(13-m)+40≤KQ+100+40*(13-(m-1)) from by omega);clear hc1;go_wp2_with (at_builtin;refine zB_.go ?_);unfold zB_;have V:=Box.new w7 #[s.ki,s.no,s.k,s.ma,s.d] 154;have hBA:=zc_ w7 (.cells #[s.ki,s.no,s.k,s.ma,s.d] 154);have hzA:w7.heap.size<(w7.alloc (.cells #[s.ki,s.no,s.k,s.ma,s.d] 154)).heap.size:=by simp
      replace oL:=zd_ oL hBA;replace hc:=hc.chg hBA;replace hch:=hch.trans (Chg.of_below hBA);refine zV_ _ rfl _ _ rfl rfl w.heap.size _ L.length L rfl oL w7.heap.size s rfl V (by omega) (by omega) ?_;intro v9 w9 o9 hgr9 _;have hC9:=zm_ hgr9;have hz9:=hC9.size;have hB9:Below w.heap.size (w7.alloc (.cells #[s.ki,s.no,s.k,s.ma,s.d] 154)) w9:=hC9.below (by omega) (fun q hq=>ze_ oL q hq);replace hc:=zI_ hc hbl hB9;replace hch:=hch.nextC hC9 (fun q hq=> .inr (ze_ oL q hq));have HL9:∀x∈L++ [s],x.d.size≤1:=fun x hx=>by
       rcases List.mem_append.1 hx with h | h
       ·exact hL x h
       ·rw [List.mem_singleton.1 h];exact hs1
      have hl9:(L++ [s]).length=L.length+1:=by simp
      rw [←hl9] at o9;generalize hL9:L++ [s]=L9 at*;have hlen9:L9.length≤60*(4-q)+40+(13-(m-1)):=by omega
      have hzN:w.heap.size≤w9.heap.size:=by omega
      clear hgr9 hC9 hB9 hBA V hzA oL hL9 hL;go_wp2;go_roundw
      case rel=>exact⟨L9,m-1,o9,hlen9,HL9,hc,hch,by go_num,by omega,hzN⟩
      case measure=>simp [intOf];omega
     ·obtain rfl:m=0:=by omega
      have hc2:=hc.mono (show KQ+100+40*(13-0)≤K+2+1000*(4-(q-1)) from by omega);clear hc;go_wp2;go_roundw
      case rel=>
       exact⟨L,q-1,oL,by omega,hL,hc2,hch,by go_num,by omega,hzx⟩
      case measure=>simp [intOf];omega
  ·obtain rfl:q=0:=by omega
   clear hlt;have hc:=hc.mono (show K+2+1000*(4-0)≤K+5000 from by omega);go_wp2_with fail;refine (one_any b l _ 40 _ hc hl (by omega) (by omega)).mono ?_;rintro e w2 ⟨⟨x2,rfl⟩,hc1,hch1⟩;replace oL:=hch1.owns oL (fun x hx hh=>by have:=ze_ oL x hx;have hh:x=b:=hh;omega);replace hch:=hch.trans hch1;have hz2:=hch1.size;clear hc hch1
   cases x2 with
   | false=>
    have hc2:=hc1.mono (show K+5000+2≤K+20000 from by omega);clear hc1;go_wp2;go_ret;exact⟨⟨_,L,rfl,oL,by omega,hL⟩,hc2,hch⟩
   | true=>
    go_wp2_with fail;refine (zl_ b l _ 2 _ hc1 hl (by omega) (by omega)).mono ?_;rintro e w3 ⟨⟨x3,rfl,hx3⟩,hc2,hch2⟩;replace oL:=hch2.owns oL (fun x hx hh=>by have:=ze_ oL x hx;have hh:x=b:=hh;omega);replace hch:=hch.trans hch2;have hz3:=hch2.size;clear hc1 hch2;have hc3:=hc2.mono (show K+5000+2+2≤K+20000 from by omega);clear hc2;obtain⟨kz,hkz⟩:∃kz:Nat,kz=200-L.length % 200+x3:=⟨_,rfl⟩;have hk0:0<kz:=by omega
    have hk1:kz≤202:=by omega
    have hk2:((200-L.length % 200:Nat):Int)+(x3:Int)=(kz:Int):=by omega
    have hk3:(200:Int)-(L.length:Int) % 200=((200-L.length % 200:Nat):Int):=by omega
    have hx31:x3≤1:=by omega
    obtain⟨v9,w9,hr9,o9,hgr9⟩:=zeros_own w3 w.heap.size L.length _ L oL rfl kz hk0 (by omega) (by omega);have hC9:=zm_ hgr9;have hz9:=hC9.size;have hB9:Below w.heap.size w3 w9:=hC9.below (by omega) (fun q hq=>ze_ oL q hq);have hc9:=zI_ hc3 hbl hB9;have hch9:=hch.nextC hC9 (fun q hq=> .inr (ze_ oL q hq));have HL9:∀s∈L++List.replicate kz Sp.zero,s.d.size≤1:=fun s hs=>by
     rcases List.mem_append.1 hs with h | h
     ·exact hL s h
     ·rw [List.eq_of_mem_replicate h];decide
    have hl9:(L++List.replicate kz Sp.zero).length=L.length+kz:=by simp
    rw [←hl9] at o9;generalize hL9:L++List.replicate kz Sp.zero=L9 at*;have hlen9:L9.length≤1000:=by omega
    have HR9:Hid _:=hr9;clear hgr9 hC9 hB9 oL hL9 hc3 hch hL hkz hx3 hr9;go_wp2_with (at_builtin;refine zB_.go ?_);unfold zB_
    first | rw [hk2] | skip
    refine Lib.wpList_append_run _ rfl _ _ _ _ rfl _ _ rfl rfl _ _ (HR9.out _) ?_;clear HR9 hk2;go_wp2;go_ret;exact⟨⟨_,L9,rfl,o9,hlen9,HL9⟩,hc9,hch9⟩
end Go.Proofs.Ytapfhhmimkkhnaa
