/-
  A message taken out: slices.Delete, impl's without.
  A message lost: impl's moveLose; moveNothing.
  An entry proposed: impl's movePropose.
-/
import Derived.ArgAppend
import Derived.Test.YtapfhhmimkkhnaaGreatCC3ToPP
namespace Go.Proofs.YtapfhhmimkkhnaaGreat
open Go.RowKit Go.Maps Go.Lib
set_option linter.unusedVariables false
set_option maxRecDepth 100000
set_option maxHeartbeats 16000000
theorem ty_ (a:Option Addr) (n cap p:Nat) (w:World) (hp:p≤n) (hn:n≤cap):(Instr.sliceAt 27 (.slice a n cap) (some (.int .i64 p)) none none).run Tryz.prog w= .ok (.slice (if cap=p then a else a.map (fun x=>x.add (p*9))) (n-p) (cap-p)) w:=by
 have h1:(p:Int)≤(n:Int):=by omega
 have h2:(0:Int)≤(p:Int):=by omega
 have hA:(Instr.sliceAt 27 (.slice a n cap) (some (.int .i64 p)) none none).run Tryz.prog w=(Instr.slice 27 (.slice a n cap) (some (.int .i64 p)) none none).run Tryz.prog w:=by simp [Instr.sliceAt,run_underlying Tryz.underlying27]
 rw [hA];simp [Instr.slice,Instr.sliceBounds,Instr.sliceBound,asIntOf,run_underlying Tryz.underlying27,hp,h2,Tryz.sizeOf80]
theorem sl_mid27 (a:Option Addr) (n cap p q:Nat) (w:World) (hpq:p≤q) (hq:q≤cap):(Instr.sliceAt 27 (.slice a n cap) (some (.int .i64 p)) (some (.int .i64 q)) none).run Tryz.prog w= .ok (.slice (if cap=p then a else a.map (fun x=>x.add (p*9))) (q-p) (cap-p)) w:=by
 have h1:(p:Int)≤(q:Int):=by omega
 have h2:(0:Int)≤(p:Int):=by omega
 have h3:(q:Int)≤(cap:Int):=by omega
 have h4:(0:Int)≤(q:Int):=by omega
 have hA:(Instr.sliceAt 27 (.slice a n cap) (some (.int .i64 p)) (some (.int .i64 q)) none).run Tryz.prog w=(Instr.slice 27 (.slice a n cap) (some (.int .i64 p)) (some (.int .i64 q)) none).run Tryz.prog w:=by simp [Instr.sliceAt,run_underlying Tryz.underlying27]
 rw [hA];simp [Instr.slice,Instr.sliceBounds,Instr.sliceBound,asIntOf,run_underlying Tryz.underlying27,h2,h4,hpq,hq,Tryz.sizeOf80]
theorem rU_ (a:Option Addr) (n cap p q:Nat) (w:World) (hpq:p≤q) (hq:q≤n) (hn:n≤cap):(Instr.sliceAt 27 (.slice a n cap) (some (.int .i64 p)) (some (.int .i64 q)) (some (.int .i64 n))).run Tryz.prog w= .ok (.slice (if n=p then a else a.map (fun x=>x.add (p*9))) (q-p) (n-p)) w:=by
 have h1:(p:Int)≤(q:Int):=by omega
 have h2:(0:Int)≤(p:Int):=by omega
 have h3:(q:Int)≤(n:Int):=by omega
 have h4:(0:Int)≤(q:Int):=by omega
 have h5:(n:Int)≤(cap:Int):=by omega
 have hA:(Instr.sliceAt 27 (.slice a n cap) (some (.int .i64 p)) (some (.int .i64 q)) (some (.int .i64 n))).run Tryz.prog w=(Instr.slice 27 (.slice a n cap) (some (.int .i64 p)) (some (.int .i64 q)) (some (.int .i64 n))).run Tryz.prog w:=by simp [Instr.sliceAt,run_underlying Tryz.underlying27]
 rw [hA];simp [Instr.slice,Instr.sliceBounds,Instr.sliceBound,asIntOf,run_underlying Tryz.underlying27,h2,h4,hpq,hq,hn,Tryz.sizeOf80]
theorem ua_ {base:Nat} {e:TypeId} {size g cap n:Nat} {xs:List Value} :∀(vs:List Value) (o:Nat) (w:World),xs.length≤o→w.ownsRow base e size (.slice (some ⟨g,0,none⟩) n cap) n xs→(w.setCells g o vs).ownsRow base e size (.slice (some ⟨g,0,none⟩) n cap) n xs∧Chg (· =g) w (w.setCells g o vs)
 | [],o,w,_,h=>⟨h,Chg.refl _ _⟩
 | v::r,o,w,ho,h=>by
  have h1:=(h.stored o v).1;rw [List.set_eq_of_length_le ho] at h1;obtain⟨h2,h3⟩:=ua_ r (o+1) _ (by omega) h1;exact⟨h2,((Chg.refl (· =g) w).setCell (p:=⟨g,o,none⟩) rfl v).trans h3⟩
theorem us_ (w:World) (ty:TypeId) (b o c:Nat) (hc:∀j,j<9→(w.cell? ⟨b,o+j,none⟩).isSome=true) (hf:∀j,w.frozen? ⟨b,j,none⟩=false):
  ∃vs:List Value,(Builtin.clear_ #[27] ty #[.slice (some ⟨b,o,none⟩) 1 c]).run Tryz.prog w= .ok (.tuple #[]) (w.setCells b o vs):=by
 have hlen:(Builtin.zeroCells (Value.agg zM).cells 1).toList.length=9:=by simp [Builtin.zeroCells,Value.cells]
 have hone:∀v∈(Builtin.zeroCells (Value.agg zM).cells 1).toList,v.oneCell'=true:=by
  intro v hv;simp only [Builtin.zeroCells,Array.toList_map,List.mem_map] at hv;obtain⟨i,_,rfl⟩:=hv;have:i % 9=0∨i % 9=1∨i % 9=2∨i % 9=3∨i % 9=4∨i % 9=5∨i % 9=6∨i % 9=7∨i % 9=8:=by omega
  rcases this with h | h | h | h | h | h | h | h | h <;>(rw [show i % (Value.agg zM).cells.size=i % 9 from rfl,h];rfl)
 generalize hzs:(Builtin.zeroCells (Value.agg zM).cells 1).toList=zs at*;have hst:=run_storeCells_cells (P:=Tryz.prog) b o zs 0 w (by intro j hj;rw [Nat.add_zero];exact hc j (by omega)) (fun j _=>hf _) hone;simp only [Nat.add_zero] at hst;refine⟨zs,?_⟩;simp [Builtin.clear_,run_underlying Tryz.underlying27,hzs,hst]
theorem wp_run80 (w w':World) {o:Oper} {a:Act} {K:Act→World→Prop} {Q:Exit→Act→World→Prop} (s x:Operand)
  (ho:o.op= .call ⟨.builtin .append,#[s,x],#[27,27]⟩) (hty:o.type=27) (v xv u:Value) (hs:a.eval s=v) (hx:a.eval x=xv) (r:(Builtin.append_ #[27,27] 27 #[v,xv]).run Tryz.prog w= .ok u w')
  (h:K (a.put o.dst u) w'):o.wp Tryz.prog a w K Q:=by
 unfold Oper.wp;simp [execOp,ho,resolve,invoke,builtin,hs,hx,hty,r,Result.andThen];exact h
theorem app_room (w:World) (base g cap k c2 b off:Nat) (M:List Mv) (hk:k<M.length) (ho:w.ownsRow base 80 9 (.slice (some ⟨g,0,none⟩) M.length cap) M.length (zo_ M)) (h2:b=g∧off=(k+1)*9∨k+1=M.length):
  ∃w',(Builtin.append_ #[27,27] 27 #[.slice (some ⟨g,0,none⟩) k cap,.slice (some ⟨b,off,none⟩) (M.length-(k+1)) c2]).run Tryz.prog w= .ok (.slice (some ⟨g,0,none⟩) (M.length-1) cap) w'∧(∃xs,w'.ownsRow base 80 9 (.slice (some ⟨g,0,none⟩) M.length cap) M.length xs)∧w'.ownsRow base 80 9 (.slice (some ⟨g,0,none⟩) (M.length-1) cap) (M.length-1) (zo_ (M.eraseIdx k))∧Chg (· =g) w w':=by
 obtain⟨i0,hi,hz0,hzs,hzb⟩:=info_parts Tryz.info80;have hcap:=vw_ ho;have hld:(zo_ (M.drop (k+1))).length=(M.length-(k+1))*9:=by rw [yI_,List.length_drop]
 have hfl:=yI_ M;have hr:=run_append_room_cells (P:=Tryz.prog) w 27 27 80 i0 Tryz.underlying27 hi g 0 k cap ⟨b,off,none⟩ (M.length-(k+1)) c2 (zo_ (M.drop (k+1))) (by rw [hzs];exact hld)
  (fun j u hj=>by
   have hjl:=(List.getElem?_eq_some_iff.1 hj).1;rcases h2 with⟨rfl,rfl⟩ | h2
   ·rw [show (⟨b,(k+1)*9,none⟩:Addr).add j=⟨b,(k+1)*9+j,none⟩ from by simp [Addr.add],ho.cellAt _ (by omega),←hj,←uG_,List.getElem?_drop]
   ·omega) (zQ_ _) (by omega) (fun j hj=>by rw [hzs,Nat.zero_add];exact yf_ ho _ (by omega)) (fun j hj=>by rw [hzs,Nat.zero_add];exact ho.frozenAt _)
 rw [hzs,Nat.zero_add,show k+(M.length-(k+1))=M.length-1 from by omega] at hr;have h1:=yj_ (zo_ (M.drop (k+1))) (k*9) _ _ ho;refine⟨_,hr,⟨_,h1⟩,?_,yq_ (S:=(· =g)) g rfl _ _ _ (Chg.refl _ _)⟩;rw [vu_ _ _ _ (by omega)] at h1;have h3:=yb_ h1 (M.length-1) (by omega);have e1:((zo_ M).take (k*9)++zo_ (M.drop (k+1))++(zo_ M).drop (k*9+(zo_ (M.drop (k+1))).length)).take ((M.length-1)*9)=zo_ (M.eraseIdx k):=by
  have hl:((zo_ M).take (k*9)++zo_ (M.drop (k+1))).length=(M.length-1)*9:=by rw [List.length_append,List.length_take,hld];omega
  rw [←hl,List.take_left,yc_,←yJ_,List.eraseIdx_eq_take_drop_succ]
 rw [e1] at h3;exact h3
theorem qp_ (base g cap k:Nat) (M:List Mv) (hk:k<M.length) (hM:M.length≤1000) (w:World) (ho:w.ownsRow base 80 9 (.slice (some ⟨g,0,none⟩) M.length cap) M.length (zo_ M)):
  Calls Tryz.prog 157 #[.slice (some ⟨g,0,none⟩) M.length cap,k,((k:Int)+1:Int)] w fun e w'=>e= .returned (.slice (some ⟨g,0,none⟩) (M.length-1) cap)∧w'.ownsRow base 80 9 (.slice (some ⟨g,0,none⟩) (M.length-1) cap) (M.length-1) (zo_ (M.eraseIdx k))∧Chg (· =g) w w':=by
 have hcap:=vw_ ho;have SL3:=fun W=>rU_ (some ⟨g,0,none⟩) M.length cap k (k+1) W (by omega) (by omega) hcap;have SL1:=fun W=>ri_ (some ⟨g,0,none⟩) M.length cap k W (by omega);obtain⟨b,off,hb1,hb2⟩:∃b off,(if cap=k+1 then (some ⟨g,0,none⟩:Option Addr) else Option.map (fun x:Addr=>x.add ((k+1)*9)) (some (⟨g,0,none⟩:Addr)))=some ⟨b,off,none⟩∧(b=g∧off=(k+1)*9∨k+1=M.length):=by
  by_cases q:cap=k+1
  ·exact⟨g,0,by rw [if_pos q],.inr (by omega)⟩
  ·exact⟨g,(k+1)*9,by rw [if_neg q];simp [Addr.add],.inl ⟨rfl,rfl⟩⟩
 have SL2:=fun W=>ty_ (some ⟨g,0,none⟩) M.length cap (k+1) W (by omega) hcap;rw [hb1] at SL2;have SL4:=fun W=>sl_mid27 (some ⟨g,0,none⟩) (M.length-1) cap (M.length-1) M.length W (by omega) hcap;rw [if_neg (by omega)] at SL4;have ek:(((k+1:Nat)):Int)=(k:Int)+1:=by omega
 simp only [ek,Option.map_some,Addr.add,Nat.zero_add] at SL3 SL2 SL4;clear ek;have o0:=ho.drew;obtain⟨w2,hr2,⟨xs,of⟩,os,hc2⟩:=app_room w.drew base g cap k (cap-(k+1)) b off M hk o0 hb2;obtain⟨vs,hr3⟩:=us_ w2 0 g ((M.length-1)*9) (cap-(M.length-1)) (fun j hj=>yf_ of _ (by omega)) (fun j=>of.frozenAt j);obtain⟨o4,hc4⟩:=ua_ vs ((M.length-1)*9) w2 (by rw [os.1];exact Nat.le_refl _) os;have hCC:Hid (Chg (· =g) w (w2.setCells g ((M.length-1)*9) vs)):=((Chg.of_below (Below.refl _ _).drew).trans hc2).trans hc4;have HO4:Hid ((w2.setCells g ((M.length-1)*9) vs).ownsRow base 80 9 (.slice (some ⟨g,0,none⟩) (M.length-1) cap) (M.length-1) (zo_ (M.eraseIdx k))):=o4;have hsub:M.length-(M.length-1)=1:=by omega
 rw [hsub] at SL4;clear o4 hc4 hc2 os of o0 ho hb1 hb2;have HK:Hid (k<M.length):=hk;have hki:(k:Int)≠(k:Int)+1:=by omega
 obtain⟨m1,hm1⟩:∃m1:Nat,Hid (m1=M.length-1):=⟨M.length-1,(rfl:_=_)⟩;go_enter Tryz.func157,Tryz.ntmps157;go_upto_region 5 with fail;refine wp_region_held_drew (S:=(fun _=>True)) (by kernel_rfl) trivial (fun zc_=> ?_);generalize w.drew=va at*;refine tkH 0 (.slice (some ⟨g,0,none⟩) M.length cap) rfl ?_ ?_
 ·intro wx hSw;clear zc_ hSw;go_simp
 simp only [Act.put,sA_,sB_,sC_];refine tkH 1 (.int .i64 k) rfl ?_ ?_
 ·intro wx hSw;clear zc_ hSw;go_simp
 simp only [Act.put,sA_,sB_,sC_];refine tkH 2 (.slice (some ⟨g,0,none⟩) k cap) rfl ?_ ?_
 ·intro wx hSw;clear zc_ hSw;go_simp
 simp only [Act.put,sA_,sB_,sC_];refine tkH 3 (.slice (some ⟨g,0,none⟩) M.length cap) rfl ?_ ?_
 ·intro wx hSw;clear zc_ hSw;go_simp
 simp only [Act.put,sA_,sB_,sC_];refine tkH 4 (.int .i64 ((k:Int)+1)) rfl ?_ ?_
 ·intro wx hSw;clear zc_ hSw;go_simp
 simp only [Act.put,sA_,sB_,sC_];refine tkH 5 (.slice (some ⟨b,off,none⟩) (M.length-(k+1)) (cap-(k+1))) rfl ?_ ?_
 ·intro wx hSw;clear zc_ hSw;go_simp
 simp only [Act.put,sA_,sB_,sC_];refine rd1 6 rfl (fun K hK=> ?_);clear zc_;refine wp_run80 _ w2 _ _ rfl rfl _ _ _ rfl rfl hr2 ?_;clear hr2;refine hK.out _ w2 trivial (fun zc_=> ?_);clear hK K
 try (simp only [Act.put,sA_,sB_,sC_])
 refine tkH 7 (.slice (some ⟨g,0,none⟩) (M.length-1) cap) rfl ?_ ?_
 ·intro wx hSw;clear zc_ hSw;go_simp
 simp only [Act.put,sA_,sB_];clear zc_;refine wpAnyH_done (by kernel_rfl) ?_ _;have hle:((M.length-1:Nat):Int)≤(M.length:Int):=by omega
 go_wp2
 ·have hz9:(M.length-1)*9=0:=by assumption
  rw [hz9] at hr3 HO4 hCC;rw [hr3];go_simp;go_wp2;go_ret;exact⟨rfl,HO4.out,hCC.out⟩
 all_goals
  go_ret;exact⟨rfl,HO4.out,hCC.out⟩
theorem vW_ (lo hi:Nat) (vn vm vl:Value) (N:List Nv) (M:List Mv) (L:List Ld) (k:Nat) (hk:k<M.length) (hM:M.length≤60) (w:World) (h:OwnC w lo hi vn vm vl N M L) (hh:hi≤w.heap.size):
  Calls Tryz.prog 131 #[.agg #[vn,vm,vl],k] w fun e w'=>∃um,e= .returned (.agg #[vn,um,vl])∧(∀b,um.ownBlock=some b→vm.ownBlock=some b)∧OwnC w' lo hi vn um vl N (M.eraseIdx k) L∧Chg (fun b=>vm.ownBlock=some b) w w':=by
 obtain⟨⟨na,nc,rfl⟩,⟨ma,mc,rfl⟩,ya,yc,rfl⟩:=h.shapes;obtain⟨g,rfl⟩:∃g,ma=some ⟨g,0,none⟩:=by
  rcases h.m.2 with⟨_,h0⟩ | ⟨g,cap,cur,hv,_⟩
  ·omega
  ·simp only [Value.slice.injEq] at hv;exact⟨g,hv.1⟩
 obtain⟨W0,hW0,hB,X,Y,hz0⟩:=al2 w [.slice na N.length nc,.slice (some ⟨g,0,none⟩) M.length mc,.slice ya L.length yc] 30 z3 30;have h0:=h.below hB;have hO0:Hid (Chg (fun b=>(.slice (some ⟨g,0,none⟩) M.length mc:Value).ownBlock=some b) w W0):=Chg.of_below hB;have hzw:=hB.size;have hgi:lo≤g∧g<hi:=⟨zg_ h.m g rfl,h.bm g rfl⟩;clear h hB;have hle:(M.eraseIdx k).length=M.length-1:=by rw [List.length_eraseIdx,if_pos hk]
 have K:=fun W (q:W.ownsRow lo 80 9 (.slice (some ⟨g,0,none⟩) M.length mc) M.length (zo_ M))=>qp_ lo g mc k M hk (by omega) W q;obtain⟨xl,x0,x1,x2,f0,f1,f2⟩:=X.c3f;go_enter Tryz.func131,Tryz.ntmps131;go_upto_region 1 with fail;rw [←hW0];clear hW0;go_wp2_with fail;refine (K _ h0.m).mono ?_;rintro e w3 ⟨rfl,o3,hC3⟩;rw [←hle] at o3 ⊢;clear K hle xl x0 x1 x2 f0 f1 f2;replace X:=hC3.box X (by omega);replace Y:=hC3.box Y (by omega);have hz3:=hC3.size;obtain⟨W4,hW4⟩:∃W,W=w3.setCell ⟨w.heap.size,1,none⟩ (.slice (some ⟨g,0,none⟩) (M.eraseIdx k).length mc):=⟨_,rfl⟩;have hC4:Chg (fun b=>b=w.heap.size) w3 W4:=by rw [hW4];exact Chg.setCell (S:=fun b=>b=w.heap.size) (Chg.refl _ _) rfl _
 have X4:Box W4 w.heap.size [.slice na N.length nc,.slice (some ⟨g,0,none⟩) (M.eraseIdx k).length mc,.slice ya L.length yc]:=by rw [hW4];exact X.set 1 _ (by simp)
 have Y4:=hC4.box Y (by omega);obtain⟨xl,x0,x1,x2,f0,f1,f2⟩:=X.c3f;go_upto_region 2 with fail;rw [←hW4];clear hW4 xl x0 x1 x2 f0 f1 f2 X Y;obtain⟨W5,hW5,hC5,Y5⟩:=zi_ W4 Y4 (.slice na N.length nc) (.slice (some ⟨g,0,none⟩) (M.eraseIdx k).length mc) (.slice ya L.length yc);have hC45:Chg (fun b=>b=w.heap.size∨b=w.heap.size+1) w3 W5:=(hC4.mono fun b hb=> .inl hb).trans (hC5.mono fun b hb=> .inr hb);have o5:=hC45.owns o3 (fun b hb hh=>by simp only [Value.ownBlock,Option.some.injEq] at hb;omega);have hz5:=hC45.size;have hFF:Hid (OwnC W5 lo hi (.slice na N.length nc) (.slice (some ⟨g,0,none⟩) (M.eraseIdx k).length mc) (.slice ya L.length yc) N (M.eraseIdx k) L):=
  h0.out k o5 ((hC3.mono fun b hb=> .inl (by have hb:b=g:=hb;rw [hb];rfl)).trans (hC45.mono fun b hb=> .inr (by omega))) (fun b hb=>by simp only [Value.ownBlock,Option.some.injEq] at hb;omega) (Nat.le_refl _)
 have hCF:Hid (Chg (fun b=>(.slice (some ⟨g,0,none⟩) M.length mc:Value).ownBlock=some b) w W5):=(hO0.out.nextC hC3 fun k q=> .inl (by have q:k=g:=q;rw [q];rfl)).nextC hC45 fun k q=> .inr (by omega);clear hC5 hC45 hC4 o5 o3 h0 hC3 hO0;obtain⟨yl,y0,y1,y2,f0,f1,f2⟩:=Y4.c3f;obtain⟨xl,x0,x1,x2⟩:=X4.c3;clear X4 Y4;obtain⟨zl,t0,t1,t2⟩:=Y5.c3;clear Y5;unfold put3 at*;go_wp2;rw [←hW5];exact bodyPost_ret (v:= .agg #[.slice na N.length nc,.slice (some ⟨g,0,none⟩) (M.eraseIdx k).length mc,.slice ya L.length yc]) (by simp [results,Tryz.results131,go_sem,t0,t1,t2]) rfl ⟨_,rfl,fun b hb=>hb,hFF.out,hCF.out⟩
end Go.Proofs.YtapfhhmimkkhnaaGreat
namespace Go.Proofs.YtapfhhmimkkhnaaGreat
open Go.RowKit Go.Maps
set_option linter.unusedVariables false
set_option maxRecDepth 100000
set_option maxHeartbeats 16000000
theorem vh_ {α β:Type} (f:α→β) (l:List α) (k:Nat):(l.eraseIdx k).map f=(l.map f).eraseIdx k:=by
 rw [List.eraseIdx_eq_take_drop_succ,List.eraseIdx_eq_take_drop_succ,List.map_append,List.map_take,List.map_drop]
theorem xl_ (i:Int) (n m l:Nat) (na:Option Addr) (nc:Nat) (xa:Option Addr) (xc:Nat) (ya:Option Addr) (yc:Nat) (w:World):
  Calls Tryz.prog 129 #[.agg #[.slice na n nc,.slice xa m xc,.slice ya l yc],i] w fun e w'=>e= .returned (.bool (isP i m))∧Below w.heap.size w w':=by
 have hB:=zb_ w (.cells #[.slice na n nc,.slice xa m xc,.slice ya l yc] 30);go_enter Tryz.func129,Tryz.ntmps129;by_cases h1:0≤i
 ·by_cases h2:i<(m:Int)
  ·have e:isP i m=true:=by simp [isP,h1,h2]
   rw [e];go_wp2;go_ret;exact⟨rfl,hB⟩
  ·have e:isP i m=false:=by simp [isP,h2]
   rw [e];go_wp2;go_ret;exact⟨rfl,hB⟩
 ·have e:isP i m=false:=by simp [isP,h1]
  rw [e];go_wp2;go_ret;exact⟨rfl,hB⟩
theorem tG_ (p lo hi:Nat) (vn vm vl:Value) (N:List Nv) (M:List Mv) (L:List Ld) (ki no k mn:Int) (d:ByteArray) (w:World) (h:OwnC w lo hi vn vm vl N M L) (hh:hi≤w.heap.size) (hG:PG p (N.map Nv.n) (M.map Mv.q) L) (hki:ki=3):
  Calls Tryz.prog 79 #[.agg #[vn,vm,vl],.agg #[ki,no,k,mn,d]] w fun e w'=>yO_ w' lo (stB (N.map Nv.n) (M.map Mv.q) ⟨ki,no,k,mn,d⟩) (stN (N.map Nv.n) (M.map Mv.q) ⟨ki,no,k,mn,d⟩) (stM (N.map Nv.n) (M.map Mv.q) ⟨ki,no,k,mn,d⟩) (stL (N.map Nv.n) (M.map Mv.q) L ⟨ki,no,k,mn,d⟩) e∧Below lo w w':=by
 have hlh:=h.lohi;have HKI:Hid (ki=3):=hki;clear hki;obtain⟨⟨na,nc,rfl⟩,⟨ma,mc,rfl⟩,ya,yc,rfl⟩:=h.shapes;obtain⟨W0,hW0,hB,X,Y,Z,hz0⟩:=al3 w [.slice na N.length nc,.slice ma M.length mc,.slice ya L.length yc] 30 [ki,no,k,mn,d] 51 z3 30;have hzw:=hB.size;have hT0:TyB W0 (w.heap.size+1+1) 30:=⟨z3,by
  rw [hW0];have:=heap_alloc_new ((w.alloc (.cells #[.slice na N.length nc,.slice ma M.length mc,.slice ya L.length yc] 30)).alloc (.cells #[ki,no,k,mn,d] 51)) (.cells z3 30);simpa using this⟩
 have HBL:=h.hbl;have HB:stB (N.map Nv.n) (M.map Mv.q) ⟨ki,no,k,mn,d⟩=isP k M.length:=by have hki:=HKI.out;subst hki;simp [stB]
 have h0:=h.below hB;have KH:=fun W=>xl_ k N.length M.length L.length na nc ma mc ya yc W;clear h;obtain⟨yl,y0,y1,y2,y3,y4⟩:=Y.c5;obtain⟨xl,x0,x1,x2⟩:=X.c3;go_enter Tryz.func79,Tryz.ntmps79;go_upto_region 1 with fail;rw [←hW0];clear hW0;go_wp2_with fail;refine (KH _).mono ?_;rintro e w1 ⟨rfl,hb1⟩;replace X:=X.below hb1;replace Y:=Y.below hb1;replace Z:=Z.below hb1;replace hT0:=hT0.below hb1;replace h0:=h0.below hb1;replace hB:=za_ hB hb1;have hz1:=hb1.size;clear KH hb1 yl y0 y1 y2 y3 y4 xl x0 x1 x2;obtain⟨yl,y0,y1,y2,y3,y4⟩:=Y.c5;obtain⟨xl,x0,x1,x2⟩:=X.c3;by_cases hP:isP k M.length=true;rotate_left
 ·replace hP:isP k M.length=false:=by simpa using hP
  rw [hP] at HB;rw [hP];clear h0;obtain⟨W5,hW5,hC5,Z5⟩:=zi_ w1 Z (.slice na N.length nc) (.slice ma M.length mc) (.slice ya L.length yc);have hBF:Hid (Below lo w W5):=(hB.trans (hC5.b1 (B:=w.heap.size) (by have:=hB.size;omega) (by omega))).mono (by omega);have HF:Hid (stB (N.map Nv.n) (M.map Mv.q) ⟨ki,no,k,mn,d⟩=false):=HB;clear hC5;obtain⟨zl,z0,z1,z2,f0,f1,f2⟩:=Z.c3f;clear Z;obtain⟨tl,t0,t1,t2⟩:=Z5.c3;clear Z5;unfold put3 at*;go_wp2;rw [←hW5];exact bodyPost_ret (v:= .tuple #[.agg #[.slice na N.length nc,.slice ma M.length mc,.slice ya L.length yc],false]) (by simp [results,Tryz.results79,go_sem,t0,t1,t2]) rfl ⟨.inr ⟨HF.out,_,_,_,_,_,_,_,_,_,rfl⟩,hBF.out⟩
 rw [hP];obtain⟨j,rfl,hj⟩:=yu_ hP;rw [hP] at HB;have HOK:Hid (stB (N.map Nv.n) (M.map Mv.q) ⟨ki,no,(j:Int),mn,d⟩=true):=HB;have hKN:Hid (stN (N.map Nv.n) (M.map Mv.q) ⟨ki,no,(j:Int),mn,d⟩=N.map Nv.n):=by
  show _=_;have hki:=HKI.out;subst hki;simp [stN]
 have hKM:Hid (stM (N.map Nv.n) (M.map Mv.q) ⟨ki,no,(j:Int),mn,d⟩=(M.map Mv.q).eraseIdx j):=by
  show _=_;have hki:=HKI.out;subst hki;simp [stM]
 have hKL:Hid (stL (N.map Nv.n) (M.map Mv.q) L ⟨ki,no,(j:Int),mn,d⟩=L):=by
  show _=_;have hki:=HKI.out;subst hki;simp [stL]
 have hM1:=hG.m6;rw [List.length_map] at hM1;have KO:=fun W q=>vW_ lo hi (.slice na N.length nc) (.slice ma M.length mc) (.slice ya L.length yc) N M L j hj hM1 W q;clear HB hP;go_wp2_with fail;refine (KO _ h0 (by omega)).mono ?_;rintro e w6 ⟨u,rfl,_,h6,hc6⟩;have hz6:=hc6.size;replace Z:=hc6.box Z (by intro q;have:=HBL.out _ (.inr (.inl q));omega);replace hT0:=hT0.chg hc6 (by intro q;have:=HBL.out _ (.inr (.inl q));omega);have HB6:Hid (Below lo w w6):=(hB.mono (show lo≤w.heap.size from by omega)).trans (hc6.below (by omega) fun b q=>(HBL.out b (.inr (.inl q))).1);obtain⟨um,umc,rfl⟩:=h6.shapes.2.1;clear KO h0 hc6 hB yl y0 y1 y2 y3 y4 xl x0 x1 x2 X Y;obtain⟨ME,HME⟩:∃ME,Hid (ME=M.eraseIdx j):=⟨M.eraseIdx j,(rfl:_=_)⟩;rw [←HME.out] at h6 ⊢;obtain⟨W5,hW5,hC5,Z5⟩:=zi_ w6 Z (.slice na N.length nc) (.slice um ME.length umc) (.slice ya L.length yc);have hz5:=hC5.size;have hFF:Hid (OwnC W5 lo W5.heap.size (.slice na N.length nc) (.slice um ME.length umc) (.slice ya L.length yc) N ME L):=(h6.keep hT0 hC5).hiN (by omega);clear h6;have hBF:Hid (Below lo w W5):=HB6.out.trans (hC5.b1 (B:=lo) (by have:=HB6.out.size;omega) (by omega));clear hC5;obtain⟨zl,z0,z1,z2,f0,f1,f2⟩:=Z.c3f;clear Z;obtain⟨tl,t0,t1,t2⟩:=Z5.c3;clear Z5;unfold put3 at*;go_wp2;rw [←hW5];exact bodyPost_ret (v:= .tuple #[.agg #[.slice na N.length nc,.slice um ME.length umc,.slice ya L.length yc],true]) (by simp [results,Tryz.results79,go_sem,t0,t1,t2]) rfl ⟨.inl ⟨HOK.out,_,_,_,_,_,rfl,by rw [hKL.out];exact hFF.out,by rw [hKN.out],by rw [HME.out,hKM.out,vh_]⟩,hBF.out⟩
theorem ug_ (lo hi:Nat) (vn vm vl:Value) (N:List Nv) (M:List Mv) (L:List Ld) (ki no k mn:Int) (d:ByteArray) (w:World) (h:OwnC w lo hi vn vm vl N M L) (hh:hi≤w.heap.size) (hki:¬(1≤ki∧ki≤7)):
  Calls Tryz.prog 84 #[.agg #[vn,vm,vl],.agg #[ki,no,k,mn,d]] w fun e w'=>yO_ w' lo (stB (N.map Nv.n) (M.map Mv.q) ⟨ki,no,k,mn,d⟩) (stN (N.map Nv.n) (M.map Mv.q) ⟨ki,no,k,mn,d⟩) (stM (N.map Nv.n) (M.map Mv.q) ⟨ki,no,k,mn,d⟩) (stL (N.map Nv.n) (M.map Mv.q) L ⟨ki,no,k,mn,d⟩) e∧Below lo w w':=by
 have hlh:=h.lohi;have HB:stB (N.map Nv.n) (M.map Mv.q) ⟨ki,no,k,mn,d⟩=false:=by
  simp only [stB];rw [if_neg (by omega),if_neg (by omega),if_neg (by omega),if_neg (by omega),if_neg (by omega),if_neg (by omega),if_neg (by omega)]
 clear hki;obtain⟨⟨na,nc,rfl⟩,⟨ma,mc,rfl⟩,ya,yc,rfl⟩:=h.shapes;clear h;obtain⟨W0,hW0,hB,X,Y,Z,hz0⟩:=al3 w [.slice na N.length nc,.slice ma M.length mc,.slice ya L.length yc] 30 [ki,no,k,mn,d] 51 z3 30;have hzw:=hB.size;obtain⟨xl,x0,x1,x2⟩:=X.c3;go_enter Tryz.func84,Tryz.ntmps84;go_upto_region 1 with fail;rw [←hW0];clear hW0;obtain⟨W5,hW5,hC5,Z5⟩:=zi_ W0 Z (.slice na N.length nc) (.slice ma M.length mc) (.slice ya L.length yc);have hBF:Hid (Below lo w W5):=(hB.trans (hC5.b1 (B:=w.heap.size) (by have:=hB.size;omega) (by omega))).mono (by omega);have HF:Hid (stB (N.map Nv.n) (M.map Mv.q) ⟨ki,no,k,mn,d⟩=false):=HB;clear hC5;obtain⟨zl,z0,z1,z2,f0,f1,f2⟩:=Z.c3f;clear Z;obtain⟨tl,t0,t1,t2⟩:=Z5.c3;clear Z5;unfold put3 at*;go_wp2;rw [←hW5];exact bodyPost_ret (v:= .tuple #[.agg #[.slice na N.length nc,.slice ma M.length mc,.slice ya L.length yc],false]) (by simp [results,Tryz.results84,go_sem,t0,t1,t2]) rfl ⟨.inr ⟨HF.out,_,_,_,_,_,_,_,_,_,rfl⟩,hBF.out⟩
theorem pe_ (x:Nv) (d:ByteArray) (c:Nat) (w:World) (hx:PN w c x) (hg:Gd x.n) (hd:d.size≤1048576) (ok:Bool) (hok:ok=prOk (gN x.n) x.n.ro x.n.log.length d):
  Calls Tryz.prog 132 #[.agg x,d] w fun e w'=>∃(y:Nv) (i:Int),e= .returned (.tuple #[.agg y,i,ok])∧(ok=true→y.n=prX x.n d∧PN w' w.heap.size y)∧Below w.heap.size w w':=by
 refine (pf_ x d c w hx hg hd ok hok).mono ?_;rintro e w' ⟨hA,hB⟩;rcases hA with⟨h1,y,i,rfl,h2,h3⟩ | ⟨h1,y,i,rfl⟩
 ·exact⟨y,i,by rw [h1],fun _=>⟨h2,h3⟩,hB⟩
 ·exact⟨y,i,by rw [h1],fun q=>(by rw [h1] at q;cases q),hB⟩
theorem implAFD (x:Nv) (peer many:Int) (c:Nat) (w:World) (hx:PN w c x) (hg:Gd x.n) (ok:Bool) (hok:ok=afOk (gN x.n) x.n.id x.n.pe x.n.ro peer many):
  Calls Tryz.prog 133 #[.agg x,peer,many] w fun e w'=>∃(y:Mv),e= .returned (.tuple #[.agg y,ok])∧(ok=true→y.q=afX x.n peer many∧PM w' w.heap.size y)∧Below w.heap.size w w':=by
 refine (implAFC x peer many c w hx hg ok hok).mono ?_;rintro e w' ⟨hA,hB⟩;rcases hA with⟨h1,y,rfl,h2,h3⟩ | ⟨h1,y,rfl⟩
 ·exact⟨y,by rw [h1],fun _=>⟨h2,h3⟩,hB⟩
 ·exact⟨y,by rw [h1],fun q=>(by rw [h1] at q;cases q),hB⟩
theorem uf_ (p lo hi:Nat) (vn vm vl:Value) (N:List Nv) (M:List Mv) (L:List Ld) (ki no k mn:Int) (d:ByteArray) (w:World) (h:OwnC w lo hi vn vm vl N M L) (hh:hi≤w.heap.size) (hG:PG p (N.map Nv.n) (M.map Mv.q) L) (hki:ki=5) (hd:d.size≤1048576):
  Calls Tryz.prog 81 #[.agg #[vn,vm,vl],.agg #[ki,no,k,mn,d]] w fun e w'=>yO_ w' lo (stB (N.map Nv.n) (M.map Mv.q) ⟨ki,no,k,mn,d⟩) (stN (N.map Nv.n) (M.map Mv.q) ⟨ki,no,k,mn,d⟩) (stM (N.map Nv.n) (M.map Mv.q) ⟨ki,no,k,mn,d⟩) (stL (N.map Nv.n) (M.map Mv.q) L ⟨ki,no,k,mn,d⟩) e∧Below lo w w':=by
 have hlh:=h.lohi;have HKI:Hid (ki=5):=hki;clear hki;obtain⟨⟨na,nc,rfl⟩,⟨ma,mc,rfl⟩,ya,yc,rfl⟩:=h.shapes;obtain⟨W0,hW0,hB,X,Y,Z,hz0⟩:=al3 w [.slice na N.length nc,.slice ma M.length mc,.slice ya L.length yc] 30 [ki,no,k,mn,d] 51 z3 30;have hzw:=hB.size;have hT0:TyB W0 (w.heap.size+1+1) 30:=⟨z3,by
  rw [hW0];have:=heap_alloc_new ((w.alloc (.cells #[.slice na N.length nc,.slice ma M.length mc,.slice ya L.length yc] 30)).alloc (.cells #[ki,no,k,mn,d] 51)) (.cells z3 30);simpa using this⟩
 have HBL:=h.hbl;have HB:stB (N.map Nv.n) (M.map Mv.q) ⟨ki,no,k,mn,d⟩=(isP no N.length&&prOk (gN (atN (N.map Nv.n) no)) (atN (N.map Nv.n) no).ro (atN (N.map Nv.n) no).log.length d):=by have hki:=HKI.out;subst hki;simp [stB]
 have h0:=h.below hB;have KH:=fun W=>xf_ no N.length M.length L.length na nc ma mc ya yc W;clear h;obtain⟨yl,y0,y1,y2,y3,y4⟩:=Y.c5;obtain⟨xl,x0,x1,x2⟩:=X.c3;go_enter Tryz.func81,Tryz.ntmps81;go_upto_region 1 with fail;rw [←hW0];clear hW0;go_wp2_with fail;refine (KH _).mono ?_;rintro e w1 ⟨rfl,hb1⟩;replace X:=X.below hb1;replace Y:=Y.below hb1;replace Z:=Z.below hb1;replace hT0:=hT0.below hb1;replace h0:=h0.below hb1;replace hB:=za_ hB hb1;have hz1:=hb1.size;clear KH hb1 yl y0 y1 y2 y3 y4 xl x0 x1 x2;by_cases hP:isP no N.length=true;rotate_left
 ·replace hP:isP no N.length=false:=by simpa using hP
  rw [hP,Bool.false_and] at HB;rw [hP];clear h0;obtain⟨xl,x0,x1,x2⟩:=X.c3;obtain⟨W5,hW5,hC5,Z5⟩:=zi_ w1 Z (.slice na N.length nc) (.slice ma M.length mc) (.slice ya L.length yc);have hBF:Hid (Below lo w W5):=(hB.trans (hC5.b1 (B:=w.heap.size) (by have:=hB.size;omega) (by omega))).mono (by omega);have HF:Hid (stB (N.map Nv.n) (M.map Mv.q) ⟨ki,no,k,mn,d⟩=false):=HB;clear hC5;obtain⟨zl,z0,z1,z2,f0,f1,f2⟩:=Z.c3f;clear Z;obtain⟨tl,t0,t1,t2⟩:=Z5.c3;clear Z5;unfold put3 at*;go_wp2;rw [←hW5];exact bodyPost_ret (v:= .tuple #[.agg #[.slice na N.length nc,.slice ma M.length mc,.slice ya L.length yc],false]) (by simp [results,Tryz.results81,go_sem,t0,t1,t2]) rfl ⟨.inr ⟨HF.out,_,_,_,_,_,_,_,_,_,rfl⟩,hBF.out⟩
 rw [hP];obtain⟨j,rfl,hj⟩:=yu_ hP;rw [zw_ hj,hP,Bool.true_and] at HB;obtain⟨c,hcb,hpx,_⟩:=h0.cn.at j hj;have hgd:Gd N[j].n∧N[j].n.id=(j:Int):=by
  obtain⟨a,b,_,_⟩:=hG.g j (by rw [List.length_map];exact hj);rw [List.getElem_map] at a b;exact⟨a,b⟩
 have hKN:Hid (stN (N.map Nv.n) (M.map Mv.q) ⟨ki,(j:Int),k,mn,d⟩=(N.map Nv.n).set j (prX N[j].n d)):=by
  show _=_;have hki:=HKI.out;subst hki;simp only [stN,zw_ hj];simp
 have hKM:Hid (stM (N.map Nv.n) (M.map Mv.q) ⟨ki,(j:Int),k,mn,d⟩=M.map Mv.q):=by
  show _=_;have hki:=HKI.out;subst hki;simp only [stM,zw_ hj];simp
 have hKL:Hid (stL (N.map Nv.n) (M.map Mv.q) L ⟨ki,(j:Int),k,mn,d⟩=L):=by
  show _=_;have hki:=HKI.out;subst hki;simp only [stL,zw_ hj];simp
 have hL1:=hG.l;have hM1:=hG.m6;rw [List.length_map] at hM1;have hNid:Hid (N[j].n.id=(j:Int)):=hgd.2;obtain⟨g,rfl⟩:∃g,na=some ⟨g,0,none⟩:=by
  rcases h0.n.2 with⟨_,h0⟩ | ⟨g,cap,cur,hv,_⟩
  ·omega
  ·simp only [Value.slice.injEq] at hv;exact⟨g,hv.1⟩
 obtain⟨ok,hok⟩:∃ok,ok=prOk (gN N[j].n) N[j].n.ro N[j].n.log.length d:=⟨_,rfl⟩;have KT:=fun W (q:Below w1.heap.size w1 W)=>pe_ N[j] d c W (OwnN.below hpx q) hgd.1 hd ok hok;rw [←hok] at HB;have HROL:Hid (ok=true→zB_ L N[j].n (prX N[j].n d)=L):=fun q=>by
  rw [hok] at q;simp only [prOk,Bool.and_eq_true,decide_eq_true_eq] at q;have e1:(prX N[j].n d).te=N[j].n.te:=rfl;unfold zB_;rw [if_neg (fun h=>h.2.1 ⟨q.2.1,e1.symm⟩)]
 have HPI:Hid ((prX N[j].n d).id=N[j].n.id):=rfl;clear hpx hgd hok hcb hP hd;have HBH:Hid _:=HB;clear HB;obtain⟨xo,HXO⟩:∃xo,Hid (N[j]=xo):=⟨N[j],(rfl:N[j]=N[j])⟩;rw [HXO.out] at KT hNid;go_upto_region 3 with fail
 go_cut [6,8] from 9 (fun t6 t8 wq=>∃(b6:Nat) (x:Nv),t6= .pointer (some ⟨b6,0,none⟩)∧t8= .bool ok∧Box wq b6 x∧Below w1.heap.size w1 wq∧(ok=true→x.n=prX xo.n d∧PN wq w1.heap.size x))
 case first=>
  clear HBH HROL HPI hNid HBL hKN hKM hKL;have h0n:=h0.n;have hgb:g<w.heap.size:=by have:=h0.bn g rfl;omega
  have hxw:=X.1;have hyw:=Y.1;clear h0 hT0 Z hB;have hva:Below w1.heap.size w1 w1.drew:=(Below.refl _ _).drew;replace X:=X.below hva;replace Y:=Y.below hva;replace h0n:=zd_ h0n hva;refine wp_region_held_drew (S:=(fun w'=>Box w' w.heap.size [.slice (some ⟨g,0,none⟩) N.length nc,.slice ma M.length mc,.slice ya L.length yc]∧Box w' (w.heap.size+1) [ki,(j:Int),k,mn,d]∧w'.ownsRow lo 42 9 (.slice (some ⟨g,0,none⟩) N.length nc) N.length (zI_ N))) (by kernel_rfl) ⟨X,Y,h0n⟩ (fun zc_=> ?_);generalize w1.drew=va at*;have hvs:w1.heap.size≤va.heap.size:=hva.size;refine tkH 0 (.pointer (some ⟨w.heap.size,0,none⟩)) rfl ?_ ?_
  ·intro wx hSw;clear zc_ hSw;go_simp
  simp only [Act.put,sA_,sB_,sC_];refine tkH 1 (.slice (some ⟨g,0,none⟩) N.length nc) rfl ?_ ?_
  ·intro wx hSw;have e:=hSw.1.2.1 0 _ rfl;have e2:=hSw.1.1;clear zc_ hSw;go_simp
  simp only [Act.put,sA_,sB_,sC_];refine tkH 2 (.pointer (some ⟨w.heap.size+1,1,none⟩)) rfl ?_ ?_
  ·intro wx hSw;clear zc_ hSw;go_simp
  simp only [Act.put,sA_,sB_,sC_];refine tkH 3 (.int .i64 (j:Int)) rfl ?_ ?_
  ·intro wx hSw;have e:=hSw.2.1.2.1 1 _ rfl;have e2:=hSw.2.1.1;clear zc_ hSw;go_simp
  simp only [Act.put,sA_,sB_,sC_];refine tkH 4 (.pointer (some ⟨g,j*9,none⟩)) rfl ?_ ?_
  ·intro wx hSw;clear zc_ hSw;go_simp
  simp only [Act.put,sA_,sB_,sC_];refine tkH 5 (.agg xo) rfl ?_ ?_
  ·intro wx hSw;obtain⟨hgl,c0,c1,c2,c3,c4,c5,c6,c7,c8⟩:=zR_ hSw.2.2 j hj rfl;rw [HXO.out] at c0 c1 c2 c3 c4 c5 c6 c7 c8;clear zc_ hSw;go_simp
  simp only [Act.put,sA_,sB_,sC_];refine tkH 6 (.pointer (some ⟨w.heap.size+1,4,none⟩)) rfl ?_ ?_
  ·intro wx hSw;clear zc_ hSw;go_simp
  simp only [Act.put,sA_,sB_,sC_];refine tkH 7 (.string d) rfl ?_ ?_
  ·intro wx hSw;have e:=hSw.2.1.2.1 4 _ rfl;have e2:=hSw.2.1.1;clear zc_ hSw;go_simp
  simp only [Act.put,sA_,sB_,sC_];refine rd2 8 13 rfl rfl (fun K hK=> ?_) (fun K hK=> ?_)
  ·clear zc_;go_simp;refine (KT va hva).mono ?_;rintro e w5 ⟨x,i,rfl,hF,hb5⟩;replace X:=X.below hb5;replace Y:=Y.below hb5;replace h0n:=zd_ h0n hb5;replace hva:=za_ hva hb5;have hz5:=hb5.size;have hfb:ok=true→∀b,BN x b→b≠w5.heap.size:=fun q b hb=>Nat.ne_of_lt (PN.in (hF q).2 b hb).2;replace hF:ok=true→x.n=prX xo.n d∧PN w5 w1.heap.size x:=fun q=>⟨(hF q).1,OwnN.mono (hF q).2 hvs⟩;clear hb5;refine hK.out _ w5 ⟨X,Y,h0n⟩ (fun zc_=> ?_);clear hK K
   try (simp only [Act.put,sA_,sB_,sC_])
   refine tkH 9 (.tuple #[.agg x,i,ok]) rfl ?_ ?_
   ·intro wx hSw;clear zc_ hSw;go_simp
   simp only [Act.put,sA_,sB_,sC_];refine tkH 10 (.agg x) rfl ?_ ?_
   ·intro wx hSw;clear zc_ hSw;go_simp
   simp only [Act.put,sA_,sB_,sC_];refine tkH 11 (.int .i64 i) rfl ?_ ?_
   ·intro wx hSw;clear zc_ hSw;go_simp
   simp only [Act.put,sA_,sB_,sC_];refine tkH 12 (.bool ok) rfl ?_ ?_
   ·intro wx hSw;clear zc_ hSw;go_simp
   simp only [Act.put,sA_,sB_,sC_];refine rd1 13 rfl (fun K hK=> ?_);clear zc_;have hBA:=zb_ w5 (.cells zN 42);have T:=Box.new w5 zN 42;have hza:(w5.alloc (.cells zN 42)).heap.size=w5.heap.size+1:=by simp
   replace X:=X.below hBA;replace Y:=Y.below hBA;replace h0n:=zd_ h0n hBA;replace hva:=za_ hva hBA;replace hF:ok=true→x.n=prX xo.n d∧PN _ w1.heap.size x:=fun q=>⟨(hF q).1,OwnN.below (hF q).2 hBA⟩;go_simp;refine hK.out _ _ ⟨X,Y,h0n⟩ (fun zc_=> ?_);clear hK K
   try (simp only [Act.put,sA_,sB_,sC_])
   clear hBA;generalize hw6:w5.alloc (.cells zN 42)=w6 at*;generalize hb6:w5.heap.size=b6 at*;clear hw6;refine rd1 14 rfl (fun K hK=> ?_);clear zc_;obtain⟨W7,hW7,hC7,T7⟩:=zj_ w6 T x.n.id x.n.pe x.n.te x.n.vo (.slice x.la x.n.log.length x.lc) x.n.co x.n.ro (.slice x.va x.n.vs.length x.vc) (.slice x.ma x.n.mt.length x.mc);obtain⟨sl,s0,s1,s2,s3,s4,s5,s6,s7,s8⟩:=T.e9;obtain⟨f0,f1,f2,f3,f4,f5,f6,f7,f8⟩:=T.f9;replace X:=hC7.box X (by omega);replace Y:=hC7.box Y (by omega);replace h0n:=hC7.owns h0n (fun b hb hh=>by simp only [Value.ownBlock,Option.some.injEq] at hb;have hh:b=b6:=hh;omega);replace hF:ok=true→x.n=prX xo.n d∧PN W7 w1.heap.size x:=fun q=>⟨(hF q).1,OwnN.chg (hF q).2 hC7 (fun b hb hh=>hfb q b hb hh)⟩;have hva7:=hva.trans (hC7.b1 (B:=w1.heap.size) (by omega) (by omega));have hz7:=hC7.size;unfold put9 at hW7;go_simp;rw [←hW7];clear hW7 hC7 sl s0 s1 s2 s3 s4 s5 s6 s7 s8 f0 f1 f2 f3 f4 f5 f6 f7 f8 T;refine hK.out _ W7 ⟨X,Y,h0n⟩ (fun zc_=> ?_);clear hK K
   try (simp only [Act.put,sA_,sB_,sC_])
   refine tkH 15 (.int .i64 i) rfl ?_ ?_
   ·intro wx hSw;clear zc_ hSw;go_simp
   simp only [Act.put,sA_,sB_,sC_];refine tkH 16 (.bool ok) rfl ?_ ?_
   ·intro wx hSw;clear zc_ hSw;go_simp
   simp only [Act.put,sA_,sB_,sC_];clear zc_;refine wpAnyH_done (by kernel_rfl) ?_ _;go_wp2_with fail;go_meet
   case rel=>exact⟨b6,x,rfl,rfl,T7,hva7,hF⟩
  ·clear zc_;have hBA:=zb_ va (.cells zN 42);have T:=Box.new va zN 42;have hza:(va.alloc (.cells zN 42)).heap.size=va.heap.size+1:=by simp
   replace X:=X.below hBA;replace Y:=Y.below hBA;replace h0n:=zd_ h0n hBA;replace hva:=za_ hva hBA;go_simp;refine hK.out _ _ ⟨X,Y,h0n⟩ (fun zc_=> ?_);clear hK K
   try (simp only [Act.put,sA_,sB_,sC_])
   clear hBA;generalize hw6:va.alloc (.cells zN 42)=v2 at*;generalize hb6:va.heap.size=b6 at*;clear hw6;refine rd1 8 rfl (fun K hK=> ?_);clear zc_;go_simp;refine (KT v2 hva).mono ?_;rintro e w5 ⟨x,i,rfl,hF,hb5⟩;replace X:=X.below hb5;replace Y:=Y.below hb5;replace h0n:=zd_ h0n hb5;replace hva:=za_ hva hb5;have hz5:=hb5.size;replace T:=T.below hb5;have hfb:ok=true→∀b,BN x b→b≠b6:=fun q b hb=>by have:=(PN.in (hF q).2 b hb).1;omega
   replace hF:ok=true→x.n=prX xo.n d∧PN w5 w1.heap.size x:=fun q=>⟨(hF q).1,OwnN.mono (hF q).2 (by omega)⟩;clear hb5;refine hK.out _ w5 ⟨X,Y,h0n⟩ (fun zc_=> ?_);clear hK K
   try (simp only [Act.put,sA_,sB_,sC_])
   refine tkH 9 (.tuple #[.agg x,i,ok]) rfl ?_ ?_
   ·intro wx hSw;clear zc_ hSw;go_simp
   simp only [Act.put,sA_,sB_,sC_];refine tkH 10 (.agg x) rfl ?_ ?_
   ·intro wx hSw;clear zc_ hSw;go_simp
   simp only [Act.put,sA_,sB_,sC_];refine tkH 11 (.int .i64 i) rfl ?_ ?_
   ·intro wx hSw;clear zc_ hSw;go_simp
   simp only [Act.put,sA_,sB_,sC_];refine tkH 12 (.bool ok) rfl ?_ ?_
   ·intro wx hSw;clear zc_ hSw;go_simp
   simp only [Act.put,sA_,sB_,sC_];refine rd1 14 rfl (fun K hK=> ?_);clear zc_;obtain⟨W7,hW7,hC7,T7⟩:=zj_ w5 T x.n.id x.n.pe x.n.te x.n.vo (.slice x.la x.n.log.length x.lc) x.n.co x.n.ro (.slice x.va x.n.vs.length x.vc) (.slice x.ma x.n.mt.length x.mc);obtain⟨sl,s0,s1,s2,s3,s4,s5,s6,s7,s8⟩:=T.e9;obtain⟨f0,f1,f2,f3,f4,f5,f6,f7,f8⟩:=T.f9;replace X:=hC7.box X (by omega);replace Y:=hC7.box Y (by omega);replace h0n:=hC7.owns h0n (fun b hb hh=>by simp only [Value.ownBlock,Option.some.injEq] at hb;have hh:b=b6:=hh;omega);replace hF:ok=true→x.n=prX xo.n d∧PN W7 w1.heap.size x:=fun q=>⟨(hF q).1,OwnN.chg (hF q).2 hC7 (fun b hb hh=>hfb q b hb hh)⟩;have hva7:=hva.trans (hC7.b1 (B:=w1.heap.size) (by omega) (by omega));have hz7:=hC7.size;unfold put9 at hW7;go_simp;rw [←hW7];clear hW7 hC7 sl s0 s1 s2 s3 s4 s5 s6 s7 s8 f0 f1 f2 f3 f4 f5 f6 f7 f8 T;refine hK.out _ W7 ⟨X,Y,h0n⟩ (fun zc_=> ?_);clear hK K
   try (simp only [Act.put,sA_,sB_,sC_])
   refine tkH 15 (.int .i64 i) rfl ?_ ?_
   ·intro wx hSw;clear zc_ hSw;go_simp
   simp only [Act.put,sA_,sB_,sC_];refine tkH 16 (.bool ok) rfl ?_ ?_
   ·intro wx hSw;clear zc_ hSw;go_simp
   simp only [Act.put,sA_,sB_,sC_];clear zc_;refine wpAnyH_done (by kernel_rfl) ?_ _;go_wp2_with fail;go_meet
   case rel=>exact⟨b6,x,rfl,rfl,T7,hva7,hF⟩
 case rest=>
  obtain⟨b6,x,rfl,rfl,T,hbq,hF⟩:=hcut;replace X:=X.below hbq;replace Z:=Z.below hbq;replace hT0:=hT0.below hbq;replace h0:=h0.below hbq;replace hB:=za_ hB hbq;have hzq:=hbq.size;clear hbq Y KT;have HB:=HBH.out;clear HBH;obtain⟨xl,x0,x1,x2⟩:=X.c3
  cases ok with
  | false=>
   replace HB:Hid _:=HB;clear hF h0 T;obtain⟨W5,hW5,hC5,Z5⟩:=zi_ wc Z (.slice (some ⟨g,0,none⟩) N.length nc) (.slice ma M.length mc) (.slice ya L.length yc);have hBF:Hid (Below lo w W5):=(hB.trans (hC5.b1 (B:=w.heap.size) (by have:=hB.size;omega) (by omega))).mono (by omega);have HF:Hid (stB (N.map Nv.n) (M.map Mv.q) ⟨ki,(j:Int),k,mn,d⟩=false):=HB.out;clear hC5;obtain⟨zl,z0,z1,z2,f0,f1,f2⟩:=Z.c3f;clear Z;obtain⟨tl,t0,t1,t2⟩:=Z5.c3;clear Z5;unfold put3 at*;go_wp2;rw [←hW5];exact bodyPost_ret (v:= .tuple #[.agg #[.slice (some ⟨g,0,none⟩) N.length nc,.slice ma M.length mc,.slice ya L.length yc],false]) (by simp [results,Tryz.results81,go_sem,t0,t1,t2]) rfl ⟨.inr ⟨HF.out,_,_,_,_,_,_,_,_,_,rfl⟩,hBF.out⟩
  | true=>
   have HOK:Hid (stB (N.map Nv.n) (M.map Mv.q) ⟨ki,(j:Int),k,mn,d⟩=true):=HB;obtain⟨hxz,hpx⟩:=hF rfl;have HRO:Hid (zB_ L N[j].n (prX N[j].n d)=L):=HROL rfl;replace hxz:Hid (x.n=prX xo.n d):=hxz;have hidx:Hid (x.n.id=(j:Int)):=by show x.n.id=_;rw [hxz.out];exact hNid.out
   clear HB hF HROL HPI hNid;have KW:=fun W q1 q2=>xX_ lo hi (.slice (some ⟨g,0,none⟩) N.length nc) (.slice ma M.length mc) (.slice ya L.length yc) N M L x j hidx.out hj W q1 q2;obtain⟨tl,t0,t1,t2,t3,t4,t5,t6,t7,t8⟩:=T.e9;go_wp2_with fail;refine (KW _ h0 (OwnN.mono hpx (by omega)) (by omega) hL1).mono ?_;rintro e w4 ⟨u,rfl,h4,hc4⟩;have hz4:=hc4.size;have hnR:∀b,((.slice (some ⟨g,0,none⟩) N.length nc:Value).ownBlock=some b∨(.slice ya L.length yc:Value).ownBlock=some b)→lo≤b∧b<hi:=fun b hb=>HBL.out b (hb.elim .inl fun q=> .inr (.inr q));replace Z:=hc4.box Z (by intro q;have:=hnR _ q;omega);replace hT0:=hT0.chg hc4 (by intro q;have:=hnR _ q;omega);have HB4:Hid (Below lo w w4):=(hB.mono (show lo≤w.heap.size from by omega)).trans (hc4.below (by omega) fun b q=>(hnR b q).1);have hx1:Hid (x.n=prX N[j].n d):=by show x.n=_;rw [hxz.out,HXO.out]
   have e9:zB_ L N[j].n x.n=L:=by rw [hx1.out];exact HRO.out
   rw [e9] at h4;obtain⟨ul,ulc,rfl⟩:=h4.shapes.2.2;clear KW h0 hpx hB tl t0 t1 t2 t3 t4 t5 t6 t7 t8 T xl x0 x1 x2 X hc4 hxz hidx e9 HRO;obtain⟨W5,hW5,hC5,Z5⟩:=zi_ w4 Z (.slice (some ⟨g,0,none⟩) N.length nc) (.slice ma M.length mc) (.slice ul L.length ulc);have hz5:=hC5.size;have hFF:Hid (OwnC W5 lo W5.heap.size (.slice (some ⟨g,0,none⟩) N.length nc) (.slice ma M.length mc) (.slice ul L.length ulc) (N.set j x) M L):=(h4.keep hT0 hC5).hiN (by omega);clear h4;have hBF:Hid (Below lo w W5):=HB4.out.trans (hC5.b1 (B:=lo) (by have:=HB4.out.size;omega) (by omega));clear hC5;obtain⟨zl,z0,z1,z2,f0,f1,f2⟩:=Z.c3f;clear Z;obtain⟨tl,t0,t1,t2⟩:=Z5.c3;clear Z5;unfold put3 at*;go_wp2;rw [←hW5];exact bodyPost_ret (v:= .tuple #[.agg #[.slice (some ⟨g,0,none⟩) N.length nc,.slice ma M.length mc,.slice ul L.length ulc],true]) (by simp [results,Tryz.results81,go_sem,t0,t1,t2]) rfl ⟨.inl ⟨HOK.out,_,_,_,_,_,rfl,by rw [hKL.out];exact hFF.out,by rw [hKN.out,map_set,hx1.out],by rw [hKM.out]⟩,hBF.out⟩
end Go.Proofs.YtapfhhmimkkhnaaGreat
