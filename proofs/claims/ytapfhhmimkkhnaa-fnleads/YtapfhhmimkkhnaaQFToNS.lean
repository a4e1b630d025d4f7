/-
  spec.TimeoutNode of more than one.
  What nodes do, the specification's way, in one form.
-/
import Derived.Test.YtapfhhmimkkhnaaG2ToQE
import Derived.Deep.RegionHeld3
import Derived.Test.YtapfhhmimkkhnaaNCToPLI
import Derived.Test.YtapfhhmimkkhnaaF7
import Derived.Test.YtapfhhmimkkhnaaQ3ToQD
namespace Go.Proofs.Ytapfhhmimkkhnaa
open Go.RowKit Go.Maps
set_option linter.unusedVariables false
set_option maxRecDepth 100000
set_option maxHeartbeats 16000000
theorem wp_append_msg (w:World) {o:Oper} {a:Act} {K:Act→World→Prop} {Q:Exit→Act→World→Prop} (s x:Operand)
  (ho:o.op= .call ⟨.builtin .append,#[s,x],#[42,42]⟩) (hty:o.type=42)
  (base:Nat) (v:Value) (n:Nat) (zs:List Mq) (hs:a.eval s=v) (hown:w.ownsRow base 38 9 v n (flat9 zs))
  (b:Nat) (q:Mq) (hx:a.eval x= .slice (some ⟨b,0,none⟩) 1 1) (hI:Box w b [q.ki,q.fr,q.dst,q.te,q.ix,q.be,(),q.co,q.ye]) (hn:n+1≤2000000) (hbase:base≤w.heap.size)
  (h:∀v' w',w'.ownsRow base 38 9 v' (n+1) (flat9 (zs++ [q]))→w.grownBy w' v.ownBlock→K (a.put o.dst v') w'):o.wp Try.prog a w K Q:=by
 obtain⟨i0,hi,hz0,hzs,hzb⟩:=info_parts Try.info38;refine wp_append_own _ s x 42 ho base 38 i0 (.agg zM) 9 88 Try.underlying42 hi hz0 hzs hzb rfl (by decide) v n (flat9 zs) hs hown ⟨b,0,none⟩ 1 1 (flat9 [q]) hx rfl ?_ ?_ (by unfold maxLen;omega) (by omega) hbase fun v' w' h1 h2 _=>h v' w' (by rw [flat9_append];exact h1) h2
 ·intro j u hj;rw [show (⟨b,0,none⟩:Addr).add j=⟨b,j,none⟩ from by simp [Addr.add];omega];exact hI.2.1 j u hj
 ·intro u hu;simp only [flat9,List.mem_cons,List.not_mem_nil,or_false] at hu;rcases hu with rfl | rfl | rfl | rfl | rfl | rfl | rfl | rfl | rfl <;>rfl
theorem specTime_more (id pe te vo co ro:Int) (vl vv vm:Value) (log:List En) (vs mt:List Int) (base:Nat) (w:World) (ho:OwnN w base vl vv vm log vs mt) (nl:log.length≤1048576) (nv:vs.length≤1048576) (nm:mt.length≤1048576) (ns:∀i (h:i<log.length),log[i].d.size≤1048576) (he:tmOk (zk_ id pe te vo co ro log vs mt) ro te=true) (hp2:2≤pe):
  Calls Try.prog 24 #[.agg #[id,pe,te,vo,vl,co,ro,vv,vm]] w fun e w'=>∃ul uv um uq,e= .returned (.tuple #[.agg #[id,pe,(te+1:Int),id,ul,co,(1:Int),uv,um],uq,true])∧OwnN w' w.heap.size ul uv um log [id] []∧w'.ownsRow w.heap.size 38 9 uq (zT_ id (te+1) log.length (tmAt log log.length) pe.toNat).length (flat9 (zT_ id (te+1) log.length (tmAt log log.length) pe.toNat))∧Below w.heap.size w w':=by
 obtain⟨pn,rfl⟩:=Int.eq_ofNat_of_zero_le (show 0≤pe from by omega);rw [Int.toNat_natCast];obtain⟨W0,hW0,hB,X,Y,hz00⟩:=al2 w [id,pn,te,vo,vl,co,ro,vv,vm] 26 zN 26;have ho0:=ho.below hB;have K:=zt_ id pn te vo co ro vl vv vm log vs mt _ ho0.er ho0.iv ho0.im nl nv nm ns;have K2:=fun W (h:Below w.heap.size w W)=>yd_ id pn te vo co ro vl vv vm log vs mt W (ho.below h).er (ho.below h).iv (ho.below h).im ho.nns.1 ho.nns.2.1 ho.nns.2.2 nl nv nm;have HG:zk_ id pn te vo co ro log vs mt=true→0≤id∧id<pn∧(pn:Int)≤7∧0≤te∧log.length≤60:=fun h=>goodN_bounds h;have HM:zk_ id pn te vo co ro log vs mt=true→¬ro=2→mt= []:=fun h h2=>goodN_mt0 h h2;generalize zk_ id pn te vo co ro log vs mt=g at*;obtain⟨⟨la,lc,rfl⟩,⟨va,vc,rfl⟩,ma,mc,rfl⟩:=ho.shapes;clear ns ho0 ho;rcases tmOk_cases g ro te with⟨_,rfl,h1,h2⟩ | ⟨h,_⟩;rotate_left
 ·rw [he] at h;cases h
 obtain⟨i1,i2,hp7,i3,i4⟩:=HG rfl;obtain rfl:=HM rfl h1;clear he HG HM nm;simp only [List.length_nil] at*;go_enter Try.func24,Try.ntmps24;go_wp2_with fail;rw [←hW0];clear hW0;refine K.mono ?_;rintro e w1 ⟨rfl,hb⟩;replace hB:=za_ hB hb;replace Y:=Y.below hb;replace X:=X.below hb;have hz1:=hb.size;clear K hb;obtain⟨hxl,x0,x1,x2,x3,x4,x5,x6,x7,x8⟩:=X.e9;have h1b:(ro==2)=false:=by simp [h1]
 have h2b:(te==1000)=false:=by simp;omega
 go_wp2_with fail;refine (K2 _ hB).mono ?_;rintro e w2 ⟨u1,u2,u3,rfl,O,hb⟩;replace hB:=za_ hB hb;replace Y:=Y.below hb;replace X:=X.below hb;have hz2:=hb.size;clear K2 hb hxl x0 x1 x2 x3 x4 x5 x6 x7 x8;have gl:=ze_ O.l;have gm:=ze_ O.m;have lm:=zh_ O.m;obtain⟨⟨ua,uc,rfl⟩,⟨pa,pc,rfl⟩,qa,qc,rfl⟩:=O.shapes;simp only [List.length_nil] at*;have ol:=O.l;have om:=O.m;clear O;obtain⟨hxl,x0,x1,x2,x3,x4,x5,x6,x7,x8⟩:=X.e9;obtain⟨e0,e1,e2,e3,e4,e5,e6,e7,e8⟩:=X.f9;go_upto_region 4 with fail;obtain⟨W3,hW3,hC,put_⟩:=zj_ w2 X id pn te vo (.slice ua log.length uc) co ro (.slice pa vs.length pc) (.slice qa 0 qc);clear X;have X:=put_;clear put_;replace Y:=hC.box Y (by omega);replace ol:=hC.owns ol (fun b hb hh=>by have:=gl b hb;have hh:b=w.heap.size:=hh;omega);replace om:=hC.owns om (fun b hb hh=>by have:=gm b hb;have hh:b=w.heap.size:=hh;omega);replace hB:=hB.trans (hC.b1 hB.size (by omega));have hz4:w2.heap.size≤W3.heap.size:=hC.size;unfold put9 at hW3;rw [←hW3];clear hW3 hC hxl x0 x1 x2 x3 x4 x5 x6 x7 x8 e0 e1 e2 e3 e4 e5 e6 e7 e8;obtain⟨hxl,x0,x1,x2,x3,x4,x5,x6,x7,x8⟩:=X.e9;obtain⟨e0,e1,e2,e3,e4,e5,e6,e7,e8⟩:=X.f9;go_upto_region 7 with fail;obtain⟨W4,hW4⟩:∃W,W=((W3.setCell ⟨w.heap.size,2,none⟩ (.int .i64 (te+1))).setCell ⟨w.heap.size,3,none⟩ (.int .i64 id)).setCell ⟨w.heap.size,6,none⟩ (.int .i64 1):=⟨_,rfl⟩;have hC:Chg (fun k=>k=w.heap.size) W3 W4:=by rw [hW4];exact Chg.setCell (S:=fun k=>k=w.heap.size) (Chg.setCell (S:=fun k=>k=w.heap.size) (Chg.setCell (S:=fun k=>k=w.heap.size) (Chg.refl _ _) rfl _) rfl _) rfl _
 replace X:Box W4 w.heap.size [id,pn,(te+1:Int),id,.slice ua log.length uc,co,(1:Int),.slice pa vs.length pc,.slice qa 0 qc]:=by rw [hW4];exact ((X.set 2 _ (by simp)).set 3 _ (by simp)).set 6 _ (by simp)
 replace Y:=hC.box Y (by omega);replace ol:=hC.owns ol (fun b hb hh=>by have:=gl b hb;have hh:b=w.heap.size:=hh;omega);replace om:=hC.owns om (fun b hb hh=>by have:=gm b hb;have hh:b=w.heap.size:=hh;omega);replace hB:=hB.trans (hC.b1 hB.size (by omega));have hz5:W3.heap.size≤W4.heap.size:=hC.size;rw [←hW4];clear hW4 hC hxl x0 x1 x2 x3 x4 x5 x6 x7 x8 e0 e1 e2 e3 e4 e5 e6 e7 e8;obtain⟨hxl,x0,x1,x2,x3,x4,x5,x6,x7,x8⟩:=X.e9;have e7:=X.2.2 7;go_upto_region 8 with fail;obtain⟨W6,hW6⟩:∃W,W=W4.setCell ⟨w.heap.size,7,none⟩ (.slice (some ⟨W4.heap.size,0,none⟩) 1 1):=⟨_,rfl⟩;have hC:Chg (fun k=>k=w.heap.size) W4 W6:=by rw [hW6];exact Chg.setCell (S:=fun k=>k=w.heap.size) (Chg.refl _ _) rfl _
 replace X:Box W6 w.heap.size [id,pn,(te+1:Int),id,.slice ua log.length uc,co,(1:Int),.slice (some ⟨W4.heap.size,0,none⟩) 1 1,.slice qa 0 qc]:=by rw [hW6];exact X.set 7 _ (by simp)
 replace Y:=hC.box Y (by omega);replace ol:=hC.owns ol (fun b hb hh=>by have:=gl b hb;have hh:b=w.heap.size:=hh;omega);replace om:=hC.owns om (fun b hb hh=>by have:=gm b hb;have hh:b=w.heap.size:=hh;omega);replace hB:=hB.trans (hC.b1 hB.size (by omega));have hz6:=hC.size;have hs6:W6.heap.size=W4.heap.size:=by rw [hW6];simp
 rw [←hW6];clear hW6;have ov:(W6.alloc (.cells #[id] 3)).ownsRow w1.heap.size 3 1 (.slice (some ⟨W4.heap.size,0,none⟩) 1 1) 1 ([id].map (.int .i64)):=by
  rw [←hs6];exact World.ownsRow_lit W6 #[id] 1 (by omega) (by simp [maxLen]) (by simp)
 have hne:∀g,(.slice (some ⟨W4.heap.size,0,none⟩) 1 1:Value).ownBlock=some g→(.slice qa 0 qc:Value).ownBlock≠some g:=fun g hg e=>by
  have:=lm g e;simp [Value.ownBlock] at hg;omega
 have BA:=zc_ W6 (.cells #[id] 3);replace X:=X.below BA;replace Y:=Y.below BA;replace ol:=zd_ ol BA;replace om:=zd_ om BA;replace hB:=za_ hB BA;have hz7:=BA.size;obtain⟨W5,hW5⟩:∃W,W=W6.alloc (.cells #[id] 3):=⟨_,rfl⟩;rw [←hW5] at X Y ol om ov hB hz7 ⊢;clear hW5 hC BA hxl x0 x1 x2 x3 x4 x5 x6 x7 x8 e7;have O:OwnN W5 w1.heap.size (.slice ua log.length uc) (.slice (some ⟨W4.heap.size,0,none⟩) 1 1) (.slice qa 0 qc) log [id] []:=⟨ol,ov,om,hne⟩;have KT:=fun W (h:Below W5.heap.size W5 W)=>l11Term_any id pn (te+1) id co 1 _ _ _ log [id] [] log.length W (O.below h).er (O.below h).iv (O.below h).im (Nat.le_refl _) nl;obtain⟨tb,HTB⟩:∃tb:Int,Hid (tmAt log log.length=tb):=⟨tmAt log log.length,rfl⟩;rw [HTB.out] at KT;have hpb:((pn:Int)==1)=false:=by simp;omega
 have hz8:w.heap.size+1+1≤W5.heap.size:=by omega
 have hz9:w.heap.size+1+1≤w1.heap.size:=by omega
 clear hz00 hz1 hz2 hz4 hz5 hz6 hz7 hs6 ol om ov hne gl gm lm h1 h2 h1b h2b;generalize W4.heap.size=gb at*;obtain⟨hxl,x0,x1,x2,x3,x4,x5,x6,x7,x8⟩:=X.e9;go_wp2;clear hxl x0 x1 x2 x3 x4 x5 x6 x7 x8 hpb
 go_loopw [5,6] (fun z i wr=>∃k:Nat,k≤pn∧i= .int .i64 k∧wr.ownsRow W5.heap.size 38 9 z (zT_ id (te+1) log.length tb k).length (flat9 (zT_ id (te+1) log.length tb k))∧Below W5.heap.size W5 wr) (fun _ i _=>pn-(intOf i).toNat)
 case atStart=>exact⟨0,Nat.zero_le _,rfl,World.ownsRow_nil _ _ _ _,Below.refl _ _⟩
 case round=>
  obtain⟨k,hk,rfl,hown,hb⟩:=hrel;have Xr:=X.below hb;have hzr:=hb.size;clear X;obtain⟨za,zc,rfl⟩:=zf_ hown;obtain⟨xl,x0,x1,x2,x3,x4,x5,x6,x7,x8⟩:=Xr.e9;by_cases hlt:k<pn
  ·by_cases hid:(k:Int)=id
   ·have HA:Hid (zT_ id (te+1) log.length tb (k+1)=zT_ id (te+1) log.length tb k):=by show _=_;simp [zT_,hid]
    have hid2:((k:Int) !=id)=false:=by simp [hid]
    have HO:Hid (wr.ownsRow W5.heap.size 38 9 (.slice za (zT_ id (te+1) log.length tb k).length zc) (zT_ id (te+1) log.length tb k).length (flat9 (zT_ id (te+1) log.length tb k))):=hown;have hal:=asksTo_le id (te+1) log.length tb k;generalize zT_ id (te+1) log.length tb k=az at*;clear hown KT O Y hB;go_wp2;go_roundw
    case rel=>exact⟨k+1,by omega,by go_num,by rw [HA.out];exact HO.out,hb⟩
    case measure=>simp [intOf];omega
   ·have HA:Hid (zT_ id (te+1) log.length tb (k+1)=zT_ id (te+1) log.length tb k++ [⟨1,id,k,te+1,log.length,tb,0,false⟩]):=by show _=_;simp [zT_,hid]
    have hid2:((k:Int) !=id)=true:=by simp [hid]
    have hal:=asksTo_le id (te+1) log.length tb k;generalize zT_ id (te+1) log.length tb k=az at*;clear O Y hB;go_wp2_with fail;have hD:Below wr.heap.size wr wr.drew:=(Below.refl _ _).drew;replace Xr:=Xr.below hD;replace hb:=za_ hb hD;replace hown:=zd_ hown hD;have hzc:=hD.size;clear hD xl x0 x1 x2 x3 x4 x5 x6 x7 x8;refine wp_region_held_drew (S:=fun w'=>Box w' w.heap.size [id,pn,(te+1:Int),id,.slice ua log.length uc,co,(1:Int),.slice (some ⟨gb,0,none⟩) 1 1,.slice qa 0 qc]) (by kernel_rfl) Xr (fun zb_=> ?_);obtain⟨cur,hcur⟩:∃cur,cur=wr.drew:=⟨_,rfl⟩;rw [←hcur] at Xr hb hown hzc ⊢;clear hcur;refine tkH 0 (.slice za az.length zc) rfl ?_ ?_
    ·intro wx hSw;clear hSw zb_;go_simp
    simp only [Act.put,sA_,sB_,sC_];refine tkH 1 (.pointer (some ⟨w.heap.size,0,none⟩)) rfl ?_ ?_
    ·intro wx hSw;clear hSw zb_;go_simp
    simp only [Act.put,sA_,sB_,sC_];refine tkH 2 (.int .i64 id) rfl ?_ ?_
    ·intro wx hSw;have e:=hSw.2.1 0 _ rfl;clear zb_;go_simp
    simp only [Act.put,sA_,sB_,sC_];refine tkH 3 (.int .i64 k) rfl ?_ ?_
    ·intro wx hSw;clear hSw zb_;go_simp
    simp only [Act.put,sA_,sB_,sC_];refine tkH 4 (.pointer (some ⟨w.heap.size,2,none⟩)) rfl ?_ ?_
    ·intro wx hSw;clear hSw zb_;go_simp
    simp only [Act.put,sA_,sB_,sC_];refine tkH 5 (.int .i64 (te+1)) rfl ?_ ?_
    ·intro wx hSw;have e:=hSw.2.1 2 _ rfl;clear zb_;go_simp
    simp only [Act.put,sA_,sB_,sC_];refine tkH 6 (.pointer (some ⟨w.heap.size,4,none⟩)) rfl ?_ ?_
    ·intro wx hSw;clear hSw zb_;go_simp
    simp only [Act.put,sA_,sB_,sC_];refine tkH 7 (.slice ua log.length uc) rfl ?_ ?_
    ·intro wx hSw;have e:=hSw.2.1 4 _ rfl;clear zb_;go_simp
    simp only [Act.put,sA_,sB_,sC_];refine tkH 8 (.int .i64 log.length) rfl ?_ ?_
    ·intro wx hSw;clear hSw zb_;go_simp
    simp only [Act.put,sA_,sB_,sC_];refine tkH 9 (.agg #[id,pn,(te+1:Int),id,.slice ua log.length uc,co,(1:Int),.slice (some ⟨gb,0,none⟩) 1 1,.slice qa 0 qc]) rfl ?_ ?_
    ·intro wx hSw;have e0:=hSw.2.1 0 _ rfl;have e1:=hSw.2.1 1 _ rfl;have e2:=hSw.2.1 2 _ rfl;have e3:=hSw.2.1 3 _ rfl;have e4:=hSw.2.1 4 _ rfl;have e5:=hSw.2.1 5 _ rfl;have e6:=hSw.2.1 6 _ rfl;have e7:=hSw.2.1 7 _ rfl;have e8:=hSw.2.1 8 _ rfl;clear zb_;go_simp
    simp only [Act.put,sA_,sB_,sC_];refine tkH 10 (.pointer (some ⟨w.heap.size,4,none⟩)) rfl ?_ ?_
    ·intro wx hSw;clear hSw zb_;go_simp
    simp only [Act.put,sA_,sB_,sC_];refine tkH 11 (.slice ua log.length uc) rfl ?_ ?_
    ·intro wx hSw;have e:=hSw.2.1 4 _ rfl;clear zb_;go_simp
    simp only [Act.put,sA_,sB_,sC_];refine tkH 12 (.int .i64 log.length) rfl ?_ ?_
    ·intro wx hSw;clear hSw zb_;go_simp
    simp only [Act.put,sA_,sB_,sC_];refine rd1 13 rfl (fun K hK=> ?_);clear zb_;go_simp;refine (KT _ hb).mono ?_;rintro e nw ⟨rfl,hb1⟩;replace Xr:=Xr.below hb1;replace hb:=za_ hb hb1;replace hown:=zd_ hown hb1;replace hzc:=Nat.le_trans hzc hb1.size;clear hb1 KT;refine hK.out _ _ Xr (fun zb_=> ?_);clear hK K;generalize nw=cur at*;refine tkH 14 (.agg #[(1:Int),id,k,(te+1:Int),log.length,tb,(),(0:Int),false]) rfl ?_ ?_
    ·intro wx hSw;clear hSw zb_;go_simp
    simp only [Act.put,sA_,sB_,sC_];refine rd1 15 rfl (fun K hK=> ?_);clear zb_;have BA:=zc_ cur (.cells #[(1:Int),id,k,(te+1:Int),log.length,tb,(),(0:Int),false] 38);have MB:=Box.new cur #[(1:Int),id,k,(te+1:Int),log.length,tb,(),(0:Int),false] 38;have hzq:=hb.size;replace Xr:=Xr.below BA;replace hb:=za_ hb BA;replace hown:=zd_ hown BA;replace hzc:=Nat.le_trans hzc BA.size;clear BA;go_simp;refine hK.out _ _ Xr (fun zb_=> ?_);clear hK K;generalize hms:cur.heap.size=ms at*;generalize cur.alloc (.cells #[(1:Int),id,k,(te+1:Int),log.length,tb,(),(0:Int),false] 38)=cur at*;clear hms;refine rd1 16 rfl (fun K hK=> ?_);clear zb_;refine wp_append_msg _ _ _ rfl rfl W5.heap.size _ az.length az rfl hown ms ⟨1,id,k,te+1,log.length,tb,0,false⟩ rfl MB (by omega) (by omega) ?_;intro u nw hown2 hgr;have gl:=ze_ hown;have hb4:Below W5.heap.size cur nw:=(Below.refl _ _).grown hgr (by omega) (fun k hk=>gl k hk);replace Xr:=Xr.under hb4 (by omega);replace hb:=hb.trans hb4;obtain⟨ua',uc',rfl⟩:=zf_ hown2;clear hown hgr gl hb4 MB;refine hK.out _ _ Xr (fun zb_=> ?_);clear hK K;have hown:=hown2;clear hown2;generalize nw=cur at*;refine tkH 17 (.slice ua' (az.length+1) uc') rfl ?_ ?_
    ·intro wx hSw;clear hSw zb_;go_simp
    simp only [Act.put,sA_,sB_,sC_];clear zb_ Xr;refine wpAnyH_done (by kernel_rfl) ?_ _;go_wp2;go_roundw
    case rel=>exact⟨k+1,by omega,by go_num,by rw [HA.out,List.length_append];exact hown,hb⟩
    case measure=>simp [intOf];omega
  ·obtain rfl:k=pn:=by omega
   have hBr:=za_ hB hb;have Yr:=Y.below hb;have Or':=O.below hb;clear KT hB hb Y O;have hC:=zo_ wr (w.heap.size+1) id k (.int .i64 (te+1)) id (.slice ua log.length uc) co (.int .i64 1) (.slice (some ⟨gb,0,none⟩) 1 1) (.slice qa 0 qc);have Z:=zp_ Yr id k (.int .i64 (te+1)) id (.slice ua log.length uc) co (.int .i64 1) (.slice (some ⟨gb,0,none⟩) 1 1) (.slice qa 0 qc);have gO:=ze_ hown;have o9:=hC.owns (zg_ hown (show w.heap.size≤W5.heap.size from by omega)) (fun b hb hh=>by have:=gO b hb;have hh:b=w.heap.size+1:=hh;omega);have lO:=fun b hb=>(Or'.lt b hb).1;have O8:=(Or'.chg hC (fun b hb hh=>by have:=lO b hb;have hh:b=w.heap.size+1:=hh;omega)).mono (show w.heap.size≤w1.heap.size from by omega);have hBE:=hBr.trans (hC.b1 hBr.size (by omega));obtain⟨ql,q0,q1,q2,q3,q4,q5,q6,q7,q8⟩:=Yr.e9;obtain⟨k0,k1,k2,k3,k4,k5,k6,k7,k8⟩:=Yr.f9;clear hC hown Or' hBr Yr gO lO;obtain⟨hzl,t0,t1,t2,t3,t4,t5,t6,t7,t8⟩:=Z.e9;clear Z;unfold put9 at*;go_wp2;exact bodyPost_ret (v:= .tuple #[.agg #[id,k,(te+1:Int),id,.slice ua log.length uc,co,(1:Int),.slice (some ⟨gb,0,none⟩) 1 1,.slice qa 0 qc],.slice za (zT_ id (te+1) log.length tb k).length zc,true]) (by simp [results,Try.results24,go_sem,t0,t1,t2,t3,t4,t5,t6,t7,t8]) rfl ⟨_,_,_,_,rfl,O8,by rw [HTB.out];exact o9,hBE⟩
set_option maxHeartbeats 200000
theorem specPropC (x:Nv) (d:ByteArray) (c:Nat) (w:World) (hx:PN w c x) (hg:Gd x.n) (hd:d.size≤1048576) (ok:Bool) (hok:ok=prOk (gN x.n) x.n.ro x.n.log.length d):
  Calls Try.prog 12 #[.agg x,d] w fun e w'=>NodeI w w' ok (prX x.n d) e∧Below w.heap.size w w':=by
 have hb:=hg.bnd;refine (specProp_any x.n.id x.n.pe x.n.te x.n.vo x.n.co x.n.ro _ _ _ x.n.log x.n.vs x.n.mt d c w hx hb.l hb.v hb.m hb.s hd).mono ?_;rintro e w' ⟨ul,uv,um,rfl,ho,hB⟩;rw [show prOk (zk_ x.n.id x.n.pe x.n.te x.n.vo x.n.co x.n.ro x.n.log x.n.vs x.n.mt) x.n.ro x.n.log.length d=ok from hok.symm] at ho ⊢
 cases ok with
 | false=>
  obtain⟨y,hy,rfl,rfl,rfl,_⟩:=nv_of Nd.zero ho;exact⟨.inr ⟨rfl,y,_,by rw [hy];rfl⟩,hB⟩
 | true=>
  obtain⟨y,hy,rfl,rfl,rfl,hp⟩:=nv_of (prX x.n d) ho;exact⟨.inl ⟨rfl,y,_,by rw [hy];rfl,hy,hp⟩,hB⟩
theorem specCrashC (x:Nv) (c:Nat) (w:World) (hx:PN w c x) (hg:Gd x.n) (ok:Bool) (hok:ok=gN x.n):
  Calls Try.prog 161 #[.agg x] w fun e w'=>NodeB w w' ok (crX x.n) e∧Below w.heap.size w w':=by
 have hb:=hg.bnd;refine (specCrash_any x.n.id x.n.pe x.n.te x.n.vo x.n.co x.n.ro _ _ _ x.n.log x.n.vs x.n.mt c w hx hb.l hb.v hb.m hb.s).mono ?_;rintro e w' ⟨ul,uv,um,rfl,ho,hB⟩;rw [show zk_ x.n.id x.n.pe x.n.te x.n.vo x.n.co x.n.ro x.n.log x.n.vs x.n.mt=ok from hok.symm] at ho ⊢
 cases ok with
 | false=>
  obtain⟨y,hy,rfl,rfl,rfl,_⟩:=nv_of Nd.zero ho;exact⟨.inr ⟨rfl,y,by rw [hy];rfl⟩,hB⟩
 | true=>
  obtain⟨y,hy,rfl,rfl,rfl,hp⟩:=nv_of (crX x.n) ho;exact⟨.inl ⟨rfl,y,by rw [hy];rfl,hy,hp⟩,hB⟩
theorem specAFC (x:Nv) (peer many:Int) (c:Nat) (w:World) (hx:PN w c x) (hg:Gd x.n) (ok:Bool) (hok:ok=afOk (gN x.n) x.n.id x.n.pe x.n.ro peer many):
  Calls Try.prog 17 #[.agg x,peer,many] w fun e w'=>MsgA w w' ok (afX x.n peer many) e∧Below w.heap.size w w':=by
 have hb:=hg.bnd;refine (specAF_any x.n.id x.n.pe x.n.te x.n.vo x.n.co x.n.ro _ _ _ x.n.log x.n.vs x.n.mt peer many c w hx hb.l hb.v hb.m hb.s).mono ?_;rintro e w' ⟨ue,rfl,ho,hB⟩;rw [show afOk (zk_ x.n.id x.n.pe x.n.te x.n.vo x.n.co x.n.ro x.n.log x.n.vs x.n.mt) x.n.id x.n.pe x.n.ro peer many=ok from hok.symm] at ho ⊢
 cases ok with
 | false=>
  obtain⟨y,hy,rfl,_⟩:=mv_of Ms.zero ho;exact⟨.inr ⟨rfl,y,by rw [hy];rfl⟩,hB⟩
 | true=>
  obtain⟨y,hy,rfl,hp⟩:=mv_of (afX x.n peer many) ho;exact⟨.inl ⟨rfl,y,by rw [hy];rfl,hy,hp⟩,hB⟩
theorem specTimeC (x:Nv) (c:Nat) (w:World) (hx:PN w c x) (hg:Gd x.n) (ok:Bool) (hok:ok=tmOk (gN x.n) x.n.ro x.n.te):
  Calls Try.prog 24 #[.agg x] w fun e w'=>NodeA w w' ok (tmX x.n) (tmA x.n) e∧Below w.heap.size w w':=by
 have hb:=hg.bnd
 cases ok with
 | false=>
  refine (specTime_no x.n.id x.n.pe x.n.te x.n.vo x.n.co x.n.ro _ _ _ x.n.log x.n.vs x.n.mt c w hx hb.l hb.v hb.m hb.s hok.symm).mono ?_;rintro e w' ⟨ul,uv,um,rfl,ho,hB⟩;obtain⟨y,hy,rfl,rfl,rfl,_⟩:=nv_of Nd.zero ho;exact⟨.inr ⟨rfl,y,by rw [hy];rfl⟩,hB⟩
 | true=>
  by_cases hp:2≤x.n.pe
  ·refine (specTime_more x.n.id x.n.pe x.n.te x.n.vo x.n.co x.n.ro _ _ _ x.n.log x.n.vs x.n.mt c w hx hb.l hb.v hb.m hb.s hok.symm hp).mono ?_;rintro e w' ⟨ul,uv,um,uq,rfl,ho,hq,hB⟩;rw [←tmA_bare,←tmA_len] at hq;have e1:tmX x.n=⟨x.n.id,x.n.pe,x.n.te+1,x.n.id,x.n.co,1,x.n.log,[x.n.id],[]⟩:=by
    unfold tmX tmN;rw [if_neg (by omega)]
   obtain⟨y,hy,rfl,rfl,rfl,hpy⟩:=nv_of (tmX x.n) (by rw [e1];exact ho);have hl:(tmA x.n).length≤100:=by
    have:=hg.p7;have:=asksTo_le x.n.id (x.n.te+1) x.n.log.length (tmAt x.n.log x.n.log.length) x.n.pe.toNat;rw [tmA_len];omega
   have q:=nodeA_of (w:=w) y hy hpy (tmA_es x.n) hl hq;refine⟨?_,hB⟩;have f1:y.n.id=x.n.id∧y.n.pe=x.n.pe∧y.n.te=x.n.te+1∧y.n.vo=x.n.id∧y.n.co=x.n.co∧y.n.ro=1:=by rw [hy,e1];exact⟨rfl,rfl,rfl,rfl,rfl,rfl⟩
   rw [f1.1,f1.2.1,f1.2.2.1,f1.2.2.2.1,f1.2.2.2.2.1,f1.2.2.2.2.2] at q;exact q
  ·have hi0:=hg.i0;have hip:=hg.ip;have hp1:=hg.p1;have i0:x.n.id=0:=by omega
   have p1:x.n.pe=1:=by omega
   have hx':OwnN w c (.slice x.la x.n.log.length x.lc) (.slice x.va x.n.vs.length x.vc) (.slice x.ma x.n.mt.length x.mc) x.n.log x.n.vs x.n.mt:=hx;have hk:=hok.symm;unfold gN at hk;rw [i0,p1] at hk;have K:=specTime_one x.n.te x.n.vo x.n.co x.n.ro _ _ _ x.n.log x.n.vs x.n.mt c w hx' hb.l hb.v hb.m hb.s hk;rw [i0,p1];refine K.mono ?_;rintro e w' ⟨ul,um,rfl,ho,hB⟩;have e1:tmX x.n=⟨0,1,x.n.te+1,0,x.n.co,2,x.n.log,[],[(x.n.log.length:Int)]⟩:=by
    unfold tmX tmN;rw [if_pos (by omega),i0,p1]
   have e2:tmA x.n= []:=by unfold tmA;rw [i0,p1];rfl
   obtain⟨y,hy,rfl,hvy,rfl,hpy⟩:=nv_of (tmX x.n) (by rw [e1];exact ho);have q:=nodeA_of (w:=w) (w':=w') (A:=tmA x.n) (uq:= .slice none 0 0) y hy hpy (tmA_es x.n) (by rw [e2];simp) (by rw [e2];exact World.ownsRow_nil _ _ _ _);refine⟨?_,hB⟩;have f1:y.n.id=0∧y.n.pe=1∧y.n.te=x.n.te+1∧y.n.vo=0∧y.n.co=x.n.co∧y.n.ro=2:=by rw [hy,e1];exact⟨rfl,rfl,rfl,rfl,rfl,rfl⟩
   rw [f1.1,f1.2.1,f1.2.2.1,f1.2.2.2.1,f1.2.2.2.2.1,f1.2.2.2.2.2,←hvy] at q;exact q
end Go.Proofs.Ytapfhhmimkkhnaa
