/-
  The draw of a play: clusterSteps, DrawPlayCluster.
  The draw of a play: DrawPlayCluster.
  The walk of FnMatching.
  From the reading of an argument to the lists that the contracts speak of: a slice of bytes that came in.
-/
import Derived.Test.YtapfhhmimkkhnaaGreatDCToTZ
import Derived.Test.YtapfhhmimkkhnaaGreatOVToLW
import Derived.Deep.Cut
import Derived.Deep.CutRange
import Derived.Deep.CutBlock
import Derived.Test.YtapfhhmimkkhnaaGreatPYToD5
import Derived.ChangeSlices
namespace Go.Proofs.YtapfhhmimkkhnaaGreat
open Go.RowKit Go.Maps
set_option linter.unusedVariables false
set_option maxRecDepth 100000
set_option maxHeartbeats 8000000
theorem steps_any (b:Nat) (l:List UInt8) (K pe:Nat) (w:World) (h:Cur w b l K) (hl:l.length≤9223372036854775807) (hK:K≤100000) (hp1:1≤pe) (hp:pe≤5):
  Calls Tryz.prog 31 #[.pointer (some ⟨b,0,none⟩),pe] w fun e w'=>(∃v L,e= .returned v∧w'.ownsRow w.heap.size 51 5 v L.length (flT L)∧L.length≤1000∧∀s∈L,s.d.size≤1)∧Cur w' b l (K+20000)∧Chg (· =b) w w':=by
 have hbl:=h.lt;go_enter Tryz.func31,Tryz.ntmps31;go_wp2_with fail;refine (zO_ b l K 5 _ h hl (by omega) (by omega)).mono ?_;rintro e w1 ⟨⟨n0,rfl,hn0⟩,hc1,hch⟩;have hz1:=hch.size;have hn4:n0≤4:=by omega
 have hc:=hc1.mono (show K+2≤K+2+1000*(4-n0) from by omega);clear h hc1 hn0;go_wp2
 go_loopw [5,6] (fun v i wr=>∃(L:List Sp) (q:Nat),wr.ownsRow w.heap.size 51 5 v L.length (flT L)∧L.length≤60*(4-q)∧(∀s∈L,s.d.size≤1)∧Cur wr b l (K+2+1000*(4-q))∧Chg (· =b) w wr∧i= .int .i64 q∧q≤4∧w.heap.size≤wr.heap.size) (fun _ i _=>(intOf i).toNat)
 case atStart=>exact⟨[],n0,World.ownsRow_nil _ _ _ _,Nat.zero_le _,(fun s hs=>by cases hs),hc,hch,rfl,hn4,hz1⟩
 case round=>
  clear hc hch hz1;obtain⟨L,q,oL,hlen,hL,hc,hch,rfl,hq4,hzr⟩:=hrel;obtain⟨va,vc,rfl⟩:=ze_ oL;by_cases hlt:0<q
  ·have hlt2:(0:Int)<(q:Int):=by omega
   obtain⟨KQ,hKQ⟩:∃KQ,Hid (K+2+1000*(4-q)=KQ):=⟨_,rfl⟩;have hKq:KQ+1000≤K+2+1000*(4-(q-1)):=by have:=hKQ.out;omega
   have hKb:KQ≤K+5000:=by have:=hKQ.out;omega
   rw [hKQ.out] at hc;clear hKQ;go_wp2_with fail;refine (one_any b l _ 3 _ hc hl (by omega) (by omega)).mono ?_;rintro e w2 ⟨⟨x2,rfl⟩,hc1,hch1⟩;replace oL:=hch1.owns oL (fun x hx hh=>by have:=zg_ oL x hx;have hh:x=b:=hh;omega);replace hch:=hch.trans hch1;have hz2:=hch1.size;clear hc hch1;go_upto_if 16 with fail
   go_cut [5] from 10 to 36 (fun s5 wc=>∃(L:List Sp),wc.ownsRow w.heap.size 51 5 s5 L.length (flT L)∧L.length≤60*(4-q)+40∧(∀s∈L,s.d.size≤1)∧Cur wc b l (KQ+2+2+40)∧Chg (· =b) w wc∧w.heap.size≤wc.heap.size)
   case first=>
    cases x2 with
    | true=>
     have hc2:=hc1.mono (show KQ+2≤KQ+2+2+40 from by omega);clear hc1;go_wp2_with fail;go_meet
     case rel=>exact⟨L,oL,by omega,hL,hc2,hch,by omega⟩
    | false=>
     go_wp2_with fail;refine (zO_ b l _ pe _ hc1 hl (by omega) (by omega)).mono ?_;rintro e w3 ⟨⟨x3,rfl,hx3⟩,hc2,hch2⟩;replace oL:=hch2.owns oL (fun x hx hh=>by have:=zg_ oL x hx;have hh:x=b:=hh;omega);replace hch:=hch.trans hch2;have hz3:=hch2.size;clear hc1 hch2 hx3;go_wp2_with fail;refine (elected_any b l _ pe x3 _ hc2 hl (by omega) hp1 hp).mono ?_;rintro e w4 ⟨⟨ev,EL,rfl,oE,hEl,hEd⟩,hc3,hch3⟩;replace oL:=hch3.owns oL (fun x hx hh=>by have:=zg_ oL x hx;have hh:x=b:=hh;omega);replace hch:=hch.trans hch3;have hz4:=hch3.size;clear hc2 hch3;obtain⟨ea,ec,rfl⟩:=ze_ oE;have TE:=TR_of_owns oE rfl;go_wp2_with (at_builtin;refine zs_.go ?_);unfold zs_;refine wpList_append_Ts _ rfl _ _ rfl rfl w.heap.size _ L.length L rfl oL _ EL rfl TE (by omega) (by omega) ?_;intro v9 w9 o9 hgr9 _;have hC9:=zz_ hgr9;have hz9:=hC9.size;have hB9:Below w.heap.size w4 w9:=hC9.below (by omega) (fun q hq=>zg_ oL q hq);have hc9:=cur_low hc3 hbl hB9;have hch9:=hch.nextC hC9 (fun q hq=> .inr (zg_ oL q hq));have HL9:∀s∈L++EL,s.d.size≤1:=fun s hs=>(List.mem_append.1 hs).elim (hL s) (hEd s);have hl9:(L++EL).length=L.length+EL.length:=by simp
     rw [←hl9] at o9;generalize hL9:L++EL=L9 at*;have hlen9:L9.length≤60*(4-q)+40:=by omega
     have hzw:w.heap.size≤w9.heap.size:=by omega
     clear hgr9 hC9 hB9 oL hL9 TE oE hc3 hch hEd hL;go_wp2_with fail;go_meet
     case rel=>exact⟨L9,o9,hlen9,HL9,hc9,hch9,hzw⟩
   case rest=>
    clear oL hc1 hch hL hlen;obtain⟨L,oL,hlen,hL,hc,hch,hzc⟩:=hcut;obtain⟨va,vc,rfl⟩:=ze_ oL;generalize wc=w5 at*;go_wp2_with fail;refine (zO_ b l _ 14 _ hc hl (by omega) (by omega)).mono ?_;rintro e w6 ⟨⟨k0,rfl,hk0⟩,hc1,hch1⟩;replace oL:=hch1.owns oL (fun x hx hh=>by have:=zg_ oL x hx;have hh:x=b:=hh;omega);replace hch:=hch.trans hch1;have hz6:=hch1.size;have hk13:k0≤13:=by omega
    have hc:=hc1.mono (show KQ+2+2+40+2≤KQ+100+40*(13-k0) from by omega);have hlen2:L.length≤60*(4-q)+40+(13-k0):=by omega
    clear hc1 hch1 hk0 hlen;go_wp2
    go_loopw [5,7] (fun v i wx=>∃(L:List Sp) (m:Nat),wx.ownsRow w.heap.size 51 5 v L.length (flT L)∧L.length≤60*(4-q)+40+(13-m)∧(∀s∈L,s.d.size≤1)∧Cur wx b l (KQ+100+40*(13-m))∧Chg (· =b) w wx∧i= .int .i64 m∧m≤13∧w.heap.size≤wx.heap.size) (fun _ i _=>(intOf i).toNat)
    case atStart=>exact⟨L,k0,oL,hlen2,hL,hc,hch,rfl,hk13,by omega⟩
    case round=>
     clear oL hlen2 hL hc hch hz6;obtain⟨L,m,oL,hlen,hL,hc,hch,rfl,hm13,hzx⟩:=hrel;obtain⟨va,vc,rfl⟩:=ze_ oL;by_cases hlt3:0<m
     ·have hlt4:(0:Int)<(m:Int):=by omega
      go_wp2_with fail;refine (clusterStep_any b l _ pe _ hc hl (by omega) hp).mono ?_;rintro e w7 ⟨⟨s,rfl,hs1⟩,hc1,hch1⟩;replace oL:=hch1.owns oL (fun x hx hh=>by have:=zg_ oL x hx;have hh:x=b:=hh;omega);replace hch:=hch.trans hch1;have hz7:=hch1.size;clear hc hch1;have hc:=hc1.mono (show KQ+100+40*(13-m)+40≤KQ+100+40*(13-(m-1)) from by omega);clear hc1;go_wp2_with (at_builtin;refine zs_.go ?_);unfold zs_;have V:=Box.new w7 #[s.ki,s.no,s.k,s.ma,s.d] 51;have hBA:=zb_ w7 (.cells #[s.ki,s.no,s.k,s.ma,s.d] 51);have hzA:w7.heap.size<(w7.alloc (.cells #[s.ki,s.no,s.k,s.ma,s.d] 51)).heap.size:=by simp
      replace oL:=zd_ oL hBA;replace hc:=hc.chg hBA;replace hch:=hch.trans (Chg.of_below hBA);refine zX_ _ rfl _ _ rfl rfl w.heap.size _ L.length L rfl oL w7.heap.size s rfl V (by omega) (by omega) ?_;intro v9 w9 o9 hgr9 _;have hC9:=zz_ hgr9;have hz9:=hC9.size;have hB9:Below w.heap.size (w7.alloc (.cells #[s.ki,s.no,s.k,s.ma,s.d] 51)) w9:=hC9.below (by omega) (fun q hq=>zg_ oL q hq);replace hc:=cur_low hc hbl hB9;replace hch:=hch.nextC hC9 (fun q hq=> .inr (zg_ oL q hq));have HL9:∀x∈L++ [s],x.d.size≤1:=fun x hx=>by
       rcases List.mem_append.1 hx with h | h
       ·exact hL x h
       ·rw [List.mem_singleton.1 h];exact hs1
      have hl9:(L++ [s]).length=L.length+1:=by simp
      rw [←hl9] at o9;generalize hL9:L++ [s]=L9 at*;have hlen9:L9.length≤60*(4-q)+40+(13-(m-1)):=by omega
      have hzN:w.heap.size≤w9.heap.size:=by omega
      clear hgr9 hC9 hB9 hBA V hzA oL hL9 hL;go_wp2;go_roundw
      case rel=>exact⟨L9,m-1,o9,hlen9,HL9,hc,hch,by go_num,by omega,hzN⟩
      case measure=>simp [intOf];omega
     ·obtain rfl:m=0:=by omega
      have hc2:=hc.mono (show KQ+100+40*(13-0)≤K+2+1000*(4-(q-1)) from by omega);clear hc;go_wp2;go_roundw
      case rel=>
       exact⟨L,q-1,oL,by omega,hL,hc2,hch,by go_num,by omega,hzx⟩
      case measure=>simp [intOf];omega
  ·obtain rfl:q=0:=by omega
   clear hlt;have hc:=hc.mono (show K+2+1000*(4-0)≤K+5000 from by omega);go_wp2_with fail;refine (one_any b l _ 40 _ hc hl (by omega) (by omega)).mono ?_;rintro e w2 ⟨⟨x2,rfl⟩,hc1,hch1⟩;replace oL:=hch1.owns oL (fun x hx hh=>by have:=zg_ oL x hx;have hh:x=b:=hh;omega);replace hch:=hch.trans hch1;have hz2:=hch1.size;clear hc hch1
   cases x2 with
   | false=>
    have hc2:=hc1.mono (show K+5000+2≤K+20000 from by omega);clear hc1;go_wp2;go_ret;exact⟨⟨_,L,rfl,oL,by omega,hL⟩,hc2,hch⟩
   | true=>
    go_wp2_with fail;refine (zO_ b l _ 2 _ hc1 hl (by omega) (by omega)).mono ?_;rintro e w3 ⟨⟨x3,rfl,hx3⟩,hc2,hch2⟩;replace oL:=hch2.owns oL (fun x hx hh=>by have:=zg_ oL x hx;have hh:x=b:=hh;omega);replace hch:=hch.trans hch2;have hz3:=hch2.size;clear hc1 hch2;have hc3:=hc2.mono (show K+5000+2+2≤K+20000 from by omega);clear hc2;obtain⟨kz,hkz⟩:∃kz:Nat,kz=200-L.length % 200+x3:=⟨_,rfl⟩;have hk0:0<kz:=by omega
    have hk1:kz≤202:=by omega
    have hk2:((200-L.length % 200:Nat):Int)+(x3:Int)=(kz:Int):=by omega
    have hk3:(200:Int)-(L.length:Int) % 200=((200-L.length % 200:Nat):Int):=by omega
    have hx31:x3≤1:=by omega
    obtain⟨v9,w9,hr9,o9,hgr9⟩:=zeros_own w3 w.heap.size L.length _ L oL rfl kz hk0 (by omega) (by omega);have hC9:=zz_ hgr9;have hz9:=hC9.size;have hB9:Below w.heap.size w3 w9:=hC9.below (by omega) (fun q hq=>zg_ oL q hq);have hc9:=cur_low hc3 hbl hB9;have hch9:=hch.nextC hC9 (fun q hq=> .inr (zg_ oL q hq));have HL9:∀s∈L++List.replicate kz Sp.zero,s.d.size≤1:=fun s hs=>by
     rcases List.mem_append.1 hs with h | h
     ·exact hL s h
     ·rw [List.eq_of_mem_replicate h];decide
    have hl9:(L++List.replicate kz Sp.zero).length=L.length+kz:=by simp
    rw [←hl9] at o9;generalize hL9:L++List.replicate kz Sp.zero=L9 at*;have hlen9:L9.length≤1000:=by omega
    have HR9:Hid _:=hr9;clear hgr9 hC9 hB9 oL hL9 hc3 hch hL hkz hx3 hr9;go_wp2_with (at_builtin;refine zs_.go ?_);unfold zs_
    first | rw [hk2] | skip
    refine Lib.wpList_append_run _ rfl _ _ _ _ rfl _ _ rfl rfl _ _ (HR9.out _) ?_;clear HR9 hk2;go_wp2;go_ret;exact⟨⟨_,L9,rfl,o9,hlen9,HL9⟩,hc9,hch9⟩
theorem drawPC_any (v:Value) (l:List UInt8) (w:World) (h:YL w v l) (hl:l.length≤9223372036854775807):
  Calls Tryz.prog 8 #[v] w fun e w'=>(∃(pe:Int) (sv:Value) (L:List Sp),e= .returned (.tuple #[pe,sv])∧w'.ownsRow w.heap.size 51 5 sv L.length (flT L)∧L.length≤1000∧∀s∈L,s.d.size≤1)∧Below w.heap.size w w':=by
 obtain⟨a0,c0,hv⟩:∃a c,v= .slice a l.length c:=by obtain⟨a,c,h1,_⟩:=h;exact⟨a,c,h1⟩
 subst hv;have hc:=cur_new h;obtain⟨W0,hW0⟩:∃W,W=w.alloc (.cells #[.slice a0 l.length c0,(0:Int),.int .u64 0] 70):=⟨_,rfl⟩;have hB:Below w.heap.size w W0:=by rw [hW0];exact zb_ _ _
 have hz0:w.heap.size<W0.heap.size:=by rw [hW0];simp
 rw [←hW0] at hc;go_enter Tryz.func8,Tryz.ntmps8;go_upto_region 2 with fail;rw [←hW0];clear hW0 h;have V:=Box.new W0 #[(1:Int),(2:Int),(3:Int),(3:Int),(3:Int),(4:Int),(5:Int)] 3;have hBA:=zb_ W0 (.cells #[(1:Int),(2:Int),(3:Int),(3:Int),(3:Int),(4:Int),(5:Int)] 3);have hzA:W0.heap.size<(W0.alloc (.cells #[(1:Int),(2:Int),(3:Int),(3:Int),(3:Int),(4:Int),(5:Int)] 3)).heap.size:=by simp
 replace hc:=hc.chg hBA;have hB1:=za_ hB hBA;go_wp2_with fail;refine (among_any w.heap.size l 0 W0.heap.size [1,2,3,3,3,4,5] _ hc hl (by omega) V (by omega) (by simp) (by simp)).mono ?_;rintro e w2 ⟨⟨x,rfl,hx⟩,hc1,hch1⟩;have hx5:1≤x∧x≤5:=by simp at hx;omega
 obtain⟨pe,rfl⟩:=Int.eq_ofNat_of_zero_le (show 0≤x from by omega);have hB2:=below_cur hB1 hch1;have hz2:=hch1.size;clear hc hch1 hB hB1 hBA V hx;go_wp2_with fail;refine (steps_any w.heap.size l _ pe _ hc1 hl (by omega) (by omega) (by omega)).mono ?_;rintro e w3 ⟨⟨sv,L,rfl,oL,hlen,hd⟩,hc2,hch2⟩;have hB3:=below_cur hB2 hch2;replace oL:=zf_ oL (show w.heap.size≤w2.heap.size from by omega);obtain⟨sa,sc,rfl⟩:=ze_ oL;clear hc1 hc2 hch2 hB2;go_wp2;go_ret2;exact⟨⟨_,_,L,rfl,oL,hlen,hd⟩,hB3⟩
set_option maxHeartbeats 16000000
theorem plR_pf {p:Int} {l:List Sp} (h:plOk p l=true):1≤p∧p≤7∧PF p.toNat (plR true p.toNat l):=by
 have hp:1≤p∧p≤7:=by
  unfold plOk at h;simp only [Bool.and_eq_true] at h;simpa [inB] using h.1
 refine⟨hp.1,hp.2,?_⟩;show PF p.toNat (if true=true then plGo (zF_ p.toNat) l else⟨[],[],[]⟩);rw [if_pos rfl];exact (newPF p.toNat (by omega) (by omega)).go l
theorem sl_to26 (a:Option Addr) (n cap p:Nat) (w:World) (hp:p≤cap):(Instr.sliceAt 26 (.slice a n cap) none (some (.int .i64 p)) none).run Tryz.prog w= .ok (.slice a p cap) w:=by
 have h1:(p:Int)≤(cap:Int):=by omega
 have h2:(0:Int)≤(p:Int):=by omega
 have hA:(Instr.sliceAt 26 (.slice a n cap) none (some (.int .i64 p)) none).run Tryz.prog w=(Instr.slice 26 (.slice a n cap) none (some (.int .i64 p)) none).run Tryz.prog w:=by simp [Instr.sliceAt,run_underlying Tryz.underlying26]
 rw [hA];have e:a.map (fun x=>x.add (0*9))=a:=by cases a <;>simp [Addr.add]
 cases a <;>simp [Instr.slice,Instr.sliceBounds,Instr.sliceBound,asIntOf,run_underlying Tryz.underlying26,hp,h2,Tryz.sizeOf42,Addr.add]
theorem drawn_short {L:List Sp} (h:∀s∈L,s.d.size≤1):∀i (hi:i<L.length),L[i].d.size≤1048576:=fun i hi=>by have:=h L[i] (List.getElem_mem hi);omega
theorem law4 (v:Value) (l:List UInt8) (w:World) (hv:YL w v l) (hl:l.length≤9223372036854775807):
  Calls Tryz.prog 4 #[v] w fun e w'=>e= .returned (.bool true)∧Below w.heap.size w w':=by
 have DR:=drawPC_any v l w hv hl;obtain⟨a,cap,rfl,_⟩:=hv;go_enter Tryz.func4,Tryz.ntmps4;by_cases hsz:(1048576:Int)<(l.length:Int)
 ·clear DR;go_wp2;go_ret;exact⟨rfl,Below.refl _ _⟩
 go_wp2_with fail;refine DR.mono ?_;rintro e w0 ⟨⟨pe,sv,L,rfl,oL,hlen,hd⟩,hB⟩;have hz0:=hB.size;clear DR;have PY:=played_any pe sv L w0 _ oL (by omega) (drawn_short hd);obtain⟨sa,sc,rfl⟩:=ze_ oL;have RB:=fun {N:List Nv} {M:List Mv} =>plR_bnd pe L (N:=N) (M:=M);have RF:=plR_pf (p:=pe) (l:=L);generalize plOk pe L=ok at*;clear hd oL;go_wp2_with fail;refine PY.mono ?_;rintro e w1 ⟨⟨un,um,ul,N,M,rfl,O,hN,hM⟩,hb⟩;have hCS:=(RB hN hM).1;replace hB:=za_ hB hb;have hz1:=hb.size;clear hb PY RB;obtain⟨⟨na,nc,h1⟩,⟨ma,mc,h2⟩,la,lc,h3⟩:=O.shapes;generalize hLL:List.length (plR _ _ _).l=ll at h3;clear hLL;subst h1 h2 h3;obtain⟨Wp,hWp⟩:∃W,W=w1.alloc (.cells #[.slice na N.length nc,.slice ma M.length mc,.slice la ll lc] 30):=⟨_,rfl⟩;have bx:=zb_ w1 (.cells #[.slice na N.length nc,.slice ma M.length mc,.slice la ll lc] 30);have P:=Box.new w1 #[.slice na N.length nc,.slice ma M.length mc,.slice la ll lc] 30;rw [←hWp] at bx P;replace O:=O.below bx;replace hB:=za_ hB bx;have hz2:=bx.size;clear bx
 cases ok with
 | false=>
  clear RF O P hN hM hCS;go_wp2;go_ret;exact⟨rfl,by rw [←hWp];exact hB⟩
 | true=>
  obtain⟨p1,p7,PFh⟩:=RF rfl;have FM:=fun i j k hi hj h1 h2 e=>PFh.f.matching i j k hi hj h1 h2 e;rw [←hN] at FM;have HN:Hid (∀i j k (hi:i<N.length) (hj:j<N.length) (h1:k<N[i].n.log.length) (h2:k<N[j].n.log.length),N[i].n.log[k].t=N[j].n.log[k].t→N[i].n.log.take (k+1)=N[j].n.log.take (k+1)):=fun i j k hi hj h1 h2 e=>by
   have:=FM i j k (by simpa using hi) (by simpa using hj) (by simpa using h1) (by simpa using h2) (by simpa using e);simpa using this
  have hcap:N.length≤nc:=(owns_cap O.n).1;obtain⟨a1,c1,e1,HC⟩:=O.cr.n;injection e1 with e1 f1 g1;subst e1 g1;clear f1;have HE:=O.cr.ne;have HCP:∀i (h:i<N.length),N[i].n.log.length≤N[i].lc:=fun i h=>by obtain⟨_,_,q,_⟩:=O.cn.at i h;exact (owns_cap q.l).1
  have nN:=hCS.n;have nE:=hCS.ne;clear FM PFh RF hN hM hCS O;obtain⟨xl,x0,x1,x2⟩:=P.c3;clear P;have HB:Hid (Below w.heap.size w Wp):=hB;clear hB;go_wp2_with fail;rw [←hWp];clear hWp
  go_loopw [38] (fun i wr=>∃k:Nat,k≤N.length∧i= .int .i64 k∧Below Wp.heap.size Wp wr) (fun i _=>N.length-(intOf i).toNat)
  case atStart=>exact⟨0,Nat.zero_le _,rfl,Below.refl _ _⟩
  case round=>
   obtain⟨i,hi,rfl,hb⟩:=hrel;by_cases hlt:i<N.length;rotate_left
   ·have HF:Hid (Below w.heap.size w wr):=HB.out.trans (hb.mono (by omega));clear HC HE nE HN HB x0 x1 x2;go_wp2;go_ret;exact⟨rfl,HF.out⟩
   obtain⟨b,off,rfl,hbl,hcell⟩:=HC (by intro e;simp [e] at hlt);have hil:(i:Int)<(N.length:Int):=by omega
   obtain⟨z0,z1,z2,z3,z4,z5,z6,z7,z8⟩:=hcell i hlt;have hc0:=(hb.cell (p:=⟨b,off+i*9,none⟩) hbl).trans z0;have hc1:=(hb.cell (p:=⟨b,off+i*9+1,none⟩) hbl).trans z1;have hc2:=(hb.cell (p:=⟨b,off+i*9+2,none⟩) hbl).trans z2;have hc3:=(hb.cell (p:=⟨b,off+i*9+3,none⟩) hbl).trans z3;have hc4:=(hb.cell (p:=⟨b,off+i*9+4,none⟩) hbl).trans z4;have hc5:=(hb.cell (p:=⟨b,off+i*9+5,none⟩) hbl).trans z5;have hc6:=(hb.cell (p:=⟨b,off+i*9+6,none⟩) hbl).trans z6;have hc7:=(hb.cell (p:=⟨b,off+i*9+7,none⟩) hbl).trans z7;have hc8:=(hb.cell (p:=⟨b,off+i*9+8,none⟩) hbl).trans z8;have hE:=(HE i hlt).below hb;have hnA:=(nE i hlt).1;have hcA:=HCP i hlt;have HNi:Hid (∀j k (hj:j<N.length) (h1:k<N[i].n.log.length) (h2:k<N[j].n.log.length),N[i].n.log[k].t=N[j].n.log[k].t→N[i].n.log.take (k+1)=N[j].n.log.take (k+1)):=fun j k hj h1 h2 e=>HN.out i j k hlt hj h1 h2 e;clear z0 z1 z2 z3 z4 z5 z6 z7 z8;generalize N[i]=s at*;obtain⟨⟨idA,peA,teA,voA,coA,roA,logA,vsA,mtA⟩,laA,lcA,vaA,vcA,maA,mcA⟩:=s;dsimp only at*;have X0:=(hb.cell (p:=⟨w1.heap.size,0,none⟩) xl).trans x0;have hz:=hb.size;have BA:=zb_ wr (.cells #[idA,peA,teA,voA,.slice laA logA.length lcA,coA,roA,.slice vaA vsA.length vcA,.slice maA mtA.length mcA] 42);have A:=Box.new wr #[idA,peA,teA,voA,.slice laA logA.length lcA,coA,roA,.slice vaA vsA.length vcA,.slice maA mtA.length mcA] 42;have hbA:=za_ hb BA;replace X0:=(BA.cell (p:=⟨w1.heap.size,0,none⟩) (by show w1.heap.size<_;omega)).trans X0;replace hE:=hE.below BA;have HSn:=fun W=>sl_to26 (some ⟨b,off,none⟩) N.length nc i W (by omega);obtain⟨WA,hWA⟩:∃W,W=wr.alloc (.cells #[idA,peA,teA,voA,.slice laA logA.length lcA,coA,roA,.slice vaA vsA.length vcA,.slice maA mtA.length mcA] 42):=⟨_,rfl⟩;rw [←hWA] at A hbA hE;have hzA:wr.heap.size+1=WA.heap.size:=by rw [hWA];simp
   clear BA;go_wp2_with (first | (refine ym_ _ rfl 26 _ _ _ _ rfl _ (HSn _) ?_;simp only [Act.put,sA_,sB_,sC_]));rw [←hWA];clear hWA hc0 hc1 hc2 hc3 hc4 hc5 hc6 hc7 hc8 HSn X0;generalize wr.heap.size=ga at*
   go_loopw [48] (fun q wm=>∃j:Nat,j≤i∧q= .int .i64 j∧Below WA.heap.size WA wm) (fun q _=>i-(intOf q).toNat)
   case atStart=>exact⟨0,Nat.zero_le _,rfl,Below.refl _ _⟩
   case round=>
    obtain⟨j,hj,rfl,hbm⟩:=hrel;by_cases hlj:j<i;rotate_left
    ·have hji:¬(j:Int)<(i:Int):=by omega
     have HF:Hid (Below Wp.heap.size Wp wr):=hbA.trans (hbm.mono (by omega));clear HC HE nE HN HB x0 x1 x2 HNi A hE hcell;go_wp2;go_roundw
     case rel=>exact⟨i+1,by omega,by go_num,HF.out⟩
     case measure=>simp [intOf];omega
    have hjN:j<N.length:=by omega
    have hjl:(j:Int)<(i:Int):=by omega
    obtain⟨z0,z1,z2,z3,z4,z5,z6,z7,z8⟩:=hcell j hjN;have hbp:=hbA.trans (hbm.mono (show Wp.heap.size≤WA.heap.size from hbA.size));have hd0:=(hbp.cell (p:=⟨b,off+j*9,none⟩) hbl).trans z0;have hd1:=(hbp.cell (p:=⟨b,off+j*9+1,none⟩) hbl).trans z1;have hd2:=(hbp.cell (p:=⟨b,off+j*9+2,none⟩) hbl).trans z2;have hd3:=(hbp.cell (p:=⟨b,off+j*9+3,none⟩) hbl).trans z3;have hd4:=(hbp.cell (p:=⟨b,off+j*9+4,none⟩) hbl).trans z4;have hd5:=(hbp.cell (p:=⟨b,off+j*9+5,none⟩) hbl).trans z5;have hd6:=(hbp.cell (p:=⟨b,off+j*9+6,none⟩) hbl).trans z6;have hd7:=(hbp.cell (p:=⟨b,off+j*9+7,none⟩) hbl).trans z7;have hd8:=(hbp.cell (p:=⟨b,off+j*9+8,none⟩) hbl).trans z8;have hG:=(HE j hjN).below hbp;have hnB:=(nE j hjN).1;have hcB:=HCP j hjN;have HNj:Hid (∀k (h1:k<logA.length) (h2:k<N[j].n.log.length),logA[k].t=N[j].n.log[k].t→logA.take (k+1)=N[j].n.log.take (k+1)):=fun k h1 h2 e=>HNi.out j k hjN h1 h2 e;clear z0 z1 z2 z3 z4 z5 z6 z7 z8;generalize N[j]=s at*;obtain⟨⟨idB,peB,teB,voB,coB,roB,logB,vsB,mtB⟩,laB,lcB,vaB,vcB,maB,mcB⟩:=s;dsimp only at*;have hzm:=hbm.size;have BB:=zb_ wr (.cells #[idB,peB,teB,voB,.slice laB logB.length lcB,coB,roB,.slice vaB vsB.length vcB,.slice maB mtB.length mcB] 42);have Bx:=Box.new wr #[idB,peB,teB,voB,.slice laB logB.length lcB,coB,roB,.slice vaB vsB.length vcB,.slice maB mtB.length mcB] 42;have hbB:=za_ hbm BB;have Ax:=(A.below hbm).below BB;have hEA:=(hE.1.below hbm).below BB;have hEB:=hG.1.below BB;obtain⟨WB,hWB⟩:∃W,W=wr.alloc (.cells #[idB,peB,teB,voB,.slice laB logB.length lcB,coB,roB,.slice vaB vsB.length vcB,.slice maB mtB.length mcB] 42):=⟨_,rfl⟩;rw [←hWB] at Bx hbB hEA hEB;have hzB:wr.heap.size+1=WB.heap.size:=by rw [hWB];simp
    clear BB hG;obtain⟨al,q0,q1,q2,q3,q4,q5,q6,q7,q8⟩:=Ax.e9;go_wp2_with fail;rw [←hWB] at Ax ⊢;clear hWB hd0 hd1 hd2 hd3 hd4 hd5 hd6 hd7 hd8 q0 q1 q2 q3 q4 q5 q6 q7 q8 al;generalize wr.heap.size=gb at*;have HM:Hid (Below WA.heap.size WA WB):=hbB;clear hbB hbm hbp
    go_loopw [12] (fun q wn=>∃k:Nat,k≤logA.length∧q= .int .i64 k∧Below WB.heap.size WB wn) (fun q _=>(intOf q).toNat)
    case atStart=>exact⟨logA.length,Nat.le_refl _,rfl,Below.refl _ _⟩
    case round=>
     obtain⟨k,hk,rfl,hbn⟩:=hrel;have hzn:=hbn.size;by_cases hk0:k=0
     ·subst hk0;have HF:Hid (Below WA.heap.size WA wr):=HM.out.trans (hbn.mono (by omega));clear HC HE nE HN HB x0 x1 x2 HNi HNj A hE hcell Ax Bx hEA hEB hbA hb HM hbn;go_wp2;go_roundw
      case rel=>exact⟨j+1,by omega,by go_num,HF.out⟩
      case measure=>simp [intOf];omega
     have hk1:(0:Int)<(k:Int):=by omega
     obtain⟨k',rfl⟩:∃k',k=k'+1:=⟨k-1,by omega⟩;have hkA:k'<logA.length:=by omega
     have Ay:=Ax.below hbn;have By:=Bx.below hbn;have hEA':=hEA.below hbn;have hEB':=hEB.below hbn;obtain⟨al,q0,q1,q2,q3,q4,q5,q6,q7,q8⟩:=Ay.e9;obtain⟨bl,r0,r1,r2,r3,r4,r5,r6,r7,r8⟩:=By.e9;have HF:Hid (Below WB.heap.size WB wr):=hbn;have HG:Hid (Below WA.heap.size WA wr):=HM.out.trans (hbn.mono (by omega));by_cases hkB:k'<logB.length;rotate_left
     ·have hkB2:¬((k':Int)+1)≤(logB.length:Int):=by omega
      have hkB3:decide (((k':Int)+1)≤(logB.length:Int))=false:=decide_eq_false hkB2;clear HC HE nE HN HB x0 x1 x2 HNi HNj A hE hcell hEA hEB hbA hb HM hbn hEA' hEB' HG;go_wp2_with fail
      go_quiet (fail)
      go_wp2;go_roundw
      case rel=>exact⟨k',by omega,by go_num,below_drewN HF.out _⟩
      case measure=>simp [intOf]
     have hkB2:((k':Int)+1)≤(logB.length:Int):=by omega
     have hkB3:decide (((k':Int)+1)≤(logB.length:Int))=true:=decide_eq_true hkB2;obtain⟨a4,c4,e4,hca⟩:=hEA';obtain⟨a5,c5,e5,hcb⟩:=hEB';injection e4 with e4 f4 g4;injection e5 with e5 f5 g5;subst e4 g4 e5 g5;obtain⟨ba,oa,rfl,hba,hcla⟩:=hca (by intro e;simp [e] at hkA);obtain⟨bb,ob,rfl,hbb,hclb⟩:=hcb (by intro e;simp [e] at hkB);obtain⟨s0,s1⟩:=hcla k' hkA;obtain⟨u0,u1⟩:=hclb k' hkB;have hW:((k':Int)+1)-1=(k':Int):=by omega
     have hk2:(0:Int)≤(k':Int):=by omega
     have hk3:(k':Int)<(logA.length:Int):=by omega
     have hk4:(k':Int)<(logB.length:Int):=by omega
     have HT:Hid (logA[k'].t=logB[k'].t→logA.take (k'+1)=logB.take (k'+1)):=fun e=>HNj.out k' hkA hkB e;clear s1 u1 hcla hclb hca hcb f4 f5;generalize logA[k'].t=tA at*;generalize logB[k'].t=tB at*;by_cases ht:tA=tB;rotate_left
     ·have ht2:decide (tA=tB)=false:=decide_eq_false ht;clear HC HE nE HN HB x0 x1 x2 HNi HNj A hE hcell hEA hEB hbA hb HM hbn HG HT;go_wp2_with fail
      go_quiet (fail)
      go_wp2;go_roundw
      case rel=>exact⟨k',by omega,by go_num,below_drewN HF.out _⟩
      case measure=>simp [intOf]
     subst ht;have HL:Hid (logA.take (k'+1)=logB.take (k'+1)):=HT.out rfl;have hLn:(logA.take (k'+1)).length=k'+1:=by rw [List.length_take];omega
     have hk5:((k':Int)+1)≤(lcA:Int):=by omega
     have hk6:((k':Int)+1)≤(lcB:Int):=by omega
     have hk7:(0:Int)≤((k':Int)+1):=by omega
     have KE:=fun (W:World) (h:Below WB.heap.size WB W)=>sameEntries_same (.slice (some ⟨ba,oa,none⟩) (k'+1) lcA) (.slice (some ⟨bb,ob,none⟩) (k'+1) lcB) (logA.take (k'+1)) W (ER_to (hEA.below h) (by omega)) (by rw [HL.out];exact ER_to (hEB.below h) (by omega)) (by rw [hLn];omega);have KF:Hid (∀(W:World) (h:Below WB.heap.size WB W),Calls Tryz.prog 13 #[.slice (some ⟨ba,oa,none⟩) (k'+1) lcA,.slice (some ⟨bb,ob,none⟩) (k'+1) lcB] W fun e w'=>e= .returned (.bool true)∧Below W.heap.size W w'):=KE;have HK:Hid (∀W,Below WB.heap.size WB W→Below WA.heap.size WA W):=fun W h=>HM.out.trans (h.mono (by omega));clear KE HC HE nE HN HB x0 x1 x2 HNi HNj A hE hcell hEA hEB hbA hb HM hbn HG HT HL hLn;go_wp2_with fail
     go_quiet (fail)
     go_wp2_with fail;have hBq:=below_drewN HF.out nq;obtain⟨Wq,hWq⟩:∃W,W=wr.drewN nq:=⟨_,rfl⟩;have hzq:=hBq.size;have Aq:=Ay.below (below_drewN (Below.refl _ _) nq);have Bq:=By.below (below_drewN (Below.refl _ _) nq);rw [←hWq] at hBq hzq Aq Bq ⊢;clear hWq;clear q0 q1 q2 q3 q4 q5 q6 q7 q8 r0 r1 r2 r3 r4 r5 r6 r7 r8 s0 u0;obtain⟨al2,q0,q1,q2,q3,q4,q5,q6,q7,q8⟩:=Aq.e9;obtain⟨bl2,r0,r1,r2,r3,r4,r5,r6,r7,r8⟩:=Bq.e9;clear q0 q1 q2 q3 q5 q6 q7 q8 r0 r1 r2 r3 r5 r6 r7 r8
     go_region_held3 (fun w'=>w'.cell? ⟨ga,4,none⟩=some (.slice (some ⟨ba,oa,none⟩) logA.length lcA)∧w'.cell? ⟨gb,4,none⟩=some (.slice (some ⟨bb,ob,none⟩) logB.length lcB)) (go_keep)
      (first | (go_at_call 13;refine (KF.out _ (hBq.drew)).mono ?_;rintro e wc ⟨rfl,hb1'⟩;have hb1:=below_undrew hb1';replace q4:=(hb1.cell (p:=⟨ga,4,none⟩) al2).trans q4;replace r4:=(hb1.cell (p:=⟨gb,4,none⟩) bl2).trans r4))
     go_wp2;go_roundw
     case rel=>exact⟨j+1,by omega,by go_num,HK.out _ (hBq.trans (hb1.mono hzq))⟩
     case measure=>simp [intOf];omega
end Go.Proofs.YtapfhhmimkkhnaaGreat
namespace Go.Proofs.YtapfhhmimkkhnaaGreat
open Go.RowKit Go.ChangeShapes Go.WideShapes Go.ChangeAt
set_option maxRecDepth 100000
theorem YL_of_trod {H:Type} {enc:TypeId×Value→H} {P:Program} {w:World} {base:Nat} {spare:Nat→Bool} {held:Bool} {t e:TypeId} {fuel:Nat} {v:Value} {x:DataW H×List MemPlace}
  (ht:P.underlying t=some (.slice e)) (he:P.underlying e=some (.int .u8)) (ce:P.cellsOf e=1)
  (h:DataW.trod enc P w base spare held fuel t [v]=some x):
  ∃l:List UInt8,YL w v l∧l.length≤maxLen:=by
 rcases open_ints ht he ce h with⟨hv,_⟩ | ⟨a,len,cap,zs,hv,hb,hl,hm,hz,hx,hcell,hws⟩
 ·simp only [List.cons.injEq,and_true] at hv;subst hv;exact⟨[],⟨none,0,rfl,fun h=>absurd rfl h⟩,by simp⟩
 ·simp only [List.cons.injEq,and_true] at hv;subst hv;have hls:len≤zs.length:=by rw [hz];split <;>omega
  have hlen:((zs.take len).map fun z=>UInt8.ofNat z.toNat).length=len:=by simp;omega
  refine⟨(zs.take len).map fun z=>UInt8.ofNat z.toNat,⟨some a,cap,by rw [hlen],fun hne=> ?_⟩,by rw [hlen];omega⟩;have hpos:0<len:=by
   rcases Nat.eq_zero_or_pos len with h0 | h0
   ·subst h0;simp at hne
   ·exact h0
  have hc0:=hcell 0 (by omega);have hsp:a.spot=none:=by
   have:=World.cell?_spot hc0;simpa [Addr.add] using this
  obtain⟨b,off,spot⟩:=a;simp only at hsp;subst hsp;have hbl:=World.block_lt_of_cell? _ _ hc0;refine⟨b,off,rfl,by simpa [Addr.add] using hbl,fun i hi=> ?_⟩;have hi':i<len:=by omega
  have hk:=hcell i (by omega);have hwf:=hws (zs.getD i 0) (by rw [List.getD_eq_getElem?_getD,List.getElem?_eq_getElem (by omega),Option.getD_some];exact List.getElem_mem _);have hr:0≤zs.getD i 0∧zs.getD i 0≤255:=by
   simp only [Lit.wf,Bool.and_eq_true,decide_eq_true_eq] at hwf;exact⟨hwf.1,hwf.2⟩
  have hg:(((zs.take len).map fun z=>UInt8.ofNat z.toNat)[i].toNat:Int)=zs.getD i 0:=by
   rw [List.getElem_map,List.getElem_take,UInt8.toNat_ofNat'];have e:zs[i]'(by omega)=zs.getD i 0:=by rw [List.getD_eq_getElem?_getD,List.getElem?_eq_getElem (by omega),Option.getD_some]
   rw [e];omega
  rw [hg,←hk];congr 1;by_cases h0:i=0
  ·subst h0;simp [Addr.add]
  ·simp [Addr.add,h0]
end Go.Proofs.YtapfhhmimkkhnaaGreat
