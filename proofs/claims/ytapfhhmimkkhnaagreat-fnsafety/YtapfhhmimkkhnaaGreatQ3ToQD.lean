/-
  Messages without entries, in a row: rows of nine cells; eqRaftMsgS, markRaftMsgS, heldRaftMsgS.
  Messages without entries, in a row: marked and held.
  Messages without entries, in a row: held; nil or not.
  The messages that ask the others: asksToOthers.
  A vote counted where none stood: BinarySearch and Insert on nothing, leading.
  votedBy of one's own vote where none stood.
  impl.TimeoutNode: where it refuses; votedBy in one.
  impl.TimeoutNode: where it asks.
  spec.TimeoutNode: where it refuses; l11Lead.
  l11Lead of one alone.
  Nothing is committed where no entry is of the new Term; an asker has no Match.
-/
import Derived.Test.YtapfhhmimkkhnaaGreatG1ToRF8
namespace Go.Proofs.YtapfhhmimkkhnaaGreat
open Go.RowKit Go.Maps
set_option linter.unusedVariables false
set_option maxRecDepth 100000
structure Mq where
 ki:Int
 fr:Int
 dst:Int
 te:Int
 ix:Int
 be:Int
 co:Int
 ye:Bool
def zW_:List Mq→List Value
 | []=> []
 | s::r=> .int .i64 s.ki:: .int .i64 s.fr:: .int .i64 s.dst:: .int .i64 s.te:: .int .i64 s.ix:: .int .i64 s.be:: .slice none 0 0:: .int .i64 s.co:: .bool s.ye::zW_ r
theorem vK_ (l m:List Mq):zW_ (l++m)=zW_ l++zW_ m:=by
 induction l with
 | nil=>rfl
 | cons x r ih=>simp only [List.cons_append,zW_,ih]
def MR (w:World) (v:Value) (l:List Mq):Prop:=
 ∃a cap,v= .slice a l.length cap∧(l≠ []→∃b off,a=some ⟨b,off,none⟩∧b<w.heap.size∧
  ∀i (h:i<l.length),w.cell? ⟨b,off+i*9,none⟩=some (.int .i64 l[i].ki)∧w.cell? ⟨b,off+i*9+1,none⟩=some (.int .i64 l[i].fr)∧w.cell? ⟨b,off+i*9+2,none⟩=some (.int .i64 l[i].dst)∧w.cell? ⟨b,off+i*9+3,none⟩=some (.int .i64 l[i].te)∧w.cell? ⟨b,off+i*9+4,none⟩=some (.int .i64 l[i].ix)∧w.cell? ⟨b,off+i*9+5,none⟩=some (.int .i64 l[i].be)∧w.cell? ⟨b,off+i*9+6,none⟩=some (.slice none 0 0)∧w.cell? ⟨b,off+i*9+7,none⟩=some (.int .i64 l[i].co)∧w.cell? ⟨b,off+i*9+8,none⟩=some (.bool l[i].ye))
theorem MR.below {w w':World} {v:Value} {l:List Mq} (h:MR w v l) (hb:Below w.heap.size w w'):MR w' v l:=by
 obtain⟨a,cap,hv,hc⟩:=h;refine⟨a,cap,hv,fun hl=> ?_⟩;obtain⟨b,off,ha,hbl,hcell⟩:=hc hl;refine⟨b,off,ha,Nat.lt_of_lt_of_le hbl hb.size,fun i hi=> ?_⟩;obtain⟨c0,c1,c2,c3,c4,c5,c6,c7,c8⟩:=hcell i hi;exact⟨(hb.cell (p:=⟨b,off+i*9,none⟩) hbl).trans c0,(hb.cell (p:=⟨b,off+i*9+1,none⟩) hbl).trans c1,(hb.cell (p:=⟨b,off+i*9+2,none⟩) hbl).trans c2,(hb.cell (p:=⟨b,off+i*9+3,none⟩) hbl).trans c3,(hb.cell (p:=⟨b,off+i*9+4,none⟩) hbl).trans c4,(hb.cell (p:=⟨b,off+i*9+5,none⟩) hbl).trans c5,(hb.cell (p:=⟨b,off+i*9+6,none⟩) hbl).trans c6,(hb.cell (p:=⟨b,off+i*9+7,none⟩) hbl).trans c7,(hb.cell (p:=⟨b,off+i*9+8,none⟩) hbl).trans c8⟩


set_option maxHeartbeats 8000000
def zC_ (id te n b:Int):Nat→List Mq
 | 0=> []
 | k+1=>zC_ id te n b k++(if (k:Int)=id then [] else [⟨1,id,k,te,n,b,0,false⟩])
theorem xp_ (id te n b:Int) (k:Nat):(zC_ id te n b k).length≤k:=by
 induction k with
 | zero=>simp [zC_]
 | succ k ih=>simp only [zC_,List.length_append];split <;>simp <;>omega
theorem Tryz.info80:(Tryz.prog.info? 80).map (fun i=>(i.zero,i.size,i.bytes))=some (some (.agg zM),9,88):=by kernel_rfl
theorem vr_ (w:World) {ops:Array Oper} {rest:List Oper} {o:Oper} {a:Act} {Q:Exit→Act→World→Prop} (hgd:o.guard=none) (s x:Operand)
  (ho:o.op= .call ⟨.builtin .append,#[s,x],#[27,27]⟩) (hty:o.type=27)
  (base:Nat) (v:Value) (n:Nat) (zs:List Mq) (hs:a.eval s=v) (hown:w.ownsRow base 80 9 v n (zW_ zs))
  (b:Nat) (q:Mq) (hx:a.eval x= .slice (some ⟨b,0,none⟩) 1 1) (hI:Box w b [q.ki,q.fr,q.dst,q.te,q.ix,q.be,(),q.co,q.ye]) (hn:n+1≤2000000) (hbase:base≤w.heap.size)
  (h:∀v' w',w'.ownsRow base 80 9 v' (n+1) (zW_ (zs++ [q]))→w.grownBy w' v.ownBlock→wpList Tryz.prog ops Q rest (a.put o.dst v') w'):wpList Tryz.prog ops Q (o::rest) a w:=by
 obtain⟨i0,hi,hz0,hzs,hzb⟩:=info_parts Tryz.info80;refine wpList_append_own _ hgd s x 27 ho base 80 i0 (.agg zM) 9 88 Tryz.underlying27 hi hz0 hzs hzb rfl (by decide) v n (zW_ zs) hs hown ⟨b,0,none⟩ 1 1 (zW_ [q]) hx rfl ?_ ?_ (by unfold maxLen;omega) (by omega) hbase fun v' w' h1 h2 _=>h v' w' (by rw [vK_];exact h1) h2
 ·intro j u hj;rw [show (⟨b,0,none⟩:Addr).add j=⟨b,j,none⟩ from by simp [Addr.add];omega];exact hI.2.1 j u hj
 ·intro u hu;simp only [zW_,List.mem_cons,List.not_mem_nil,or_false] at hu;rcases hu with rfl | rfl | rfl | rfl | rfl | rfl | rfl | rfl | rfl <;>rfl
theorem vS_ (id pe te vo co ro:Int) (vl vv vm:Value) (log:List En) (vs mt:List Int) (w:World) (hl:ER w vl log) (hv:IL w vv vs) (hm:IL w vm mt) (nl:log.length≤1048576) (hp0:0≤pe) (hp7:pe≤7):
  Calls Tryz.prog 154 #[.agg #[id,pe,te,vo,vl,co,ro,vv,vm]] w fun e w'=>∃u,e= .returned u∧w'.ownsRow w.heap.size 80 9 u (zC_ id te log.length (tmAt log log.length) pe.toNat).length (zW_ (zC_ id te log.length (tmAt log log.length) pe.toNat))∧Below w.heap.size w w':=by
 obtain⟨pn,rfl⟩:=Int.eq_ofNat_of_zero_le hp0;rw [Int.toNat_natCast];have KT:=fun W (h:Below w.heap.size w W)=>xN_ id pn te vo co ro vl vv vm log vs mt log.length W (hl.below h) (hv.below h) (hm.below h) (Nat.le_refl _) nl;have MT:=fun (k:Int) W=>yR_ id pn te vo co ro k 1 vl vv vm W;obtain⟨la,lc,rfl,hlc⟩:=hl;obtain⟨va,vc,rfl,hvc⟩:=hv;obtain⟨ma,mc,rfl,hmc⟩:=hm;clear hlc hvc hmc;generalize tmAt log log.length=tb at*;have hB:=zb_ w (.cells #[id,pn,te,vo,.slice la log.length lc,co,ro,.slice va vs.length vc,.slice ma mt.length mc] 42);have X:=Box.new w #[id,pn,te,vo,.slice la log.length lc,co,ro,.slice va vs.length vc,.slice ma mt.length mc] 42;obtain⟨W0,hW0⟩:∃W0,W0=w.alloc (.cells #[id,pn,te,vo,.slice la log.length lc,co,ro,.slice va vs.length vc,.slice ma mt.length mc] 42):=⟨_,rfl⟩;rw [←hW0] at hB X;have hz0:=X.1;go_enter Tryz.func154,Tryz.ntmps154;go_wp2;rw [←hW0];clear hW0
 go_loopw [3,8] (fun z i wr=>∃k:Nat,k≤pn∧i= .int .i64 k∧wr.ownsRow W0.heap.size 80 9 z (zC_ id te log.length tb k).length (zW_ (zC_ id te log.length tb k))∧Below W0.heap.size W0 wr) (fun _ i _=>pn-(intOf i).toNat)
 case atStart=>exact⟨0,Nat.zero_le _,rfl,World.ownsRow_nil _ _ _ _,Below.refl _ _⟩
 case round=>
  obtain⟨k,hk,rfl,hown,hb⟩:=hrel;have Xr:=X.below hb;have hBr:=za_ hB hb;have hzr:=hb.size;clear X;obtain⟨za,zc,rfl⟩:=ze_ hown;obtain⟨xl,x0,x1,x2,x3,x4,x5,x6,x7,x8⟩:=Xr.e9;by_cases hlt:k<pn
  ·by_cases hid:(k:Int)=id
   ·have HA:Hid (zC_ id te log.length tb (k+1)=zC_ id te log.length tb k):=by show _=_;simp [zC_,hid]
    have hid2:((k:Int)==id)=true:=by simp [hid]
    have HO:Hid _:=hown;have hal:=xp_ id te log.length tb k;generalize zC_ id te log.length tb k=az at*;clear hown KT MT;go_wp2;go_roundw
    case rel=>exact⟨k+1,by omega,by go_num,by rw [HA.out];exact HO.out,hb⟩
    case measure=>simp [intOf];omega
   ·have HA:Hid (zC_ id te log.length tb (k+1)=zC_ id te log.length tb k++ [⟨1,id,k,te,log.length,tb,0,false⟩]):=by show _=_;simp [zC_,hid]
    have hid2:((k:Int)==id)=false:=by simp [hid]
    have hal:=xp_ id te log.length tb k;generalize zC_ id te log.length tb k=az at*;go_wp2_with fail;refine (MT _ _).mono ?_;rintro e w1 ⟨rfl,hb1⟩;replace Xr:=Xr.below hb1;replace hBr:=za_ hBr hb1;replace hb:=za_ hb hb1;replace hown:=zd_ hown hb1;have hz1:=hb1.size;clear MT hb1 xl x0 x1 x2 x3 x4 x5 x6 x7 x8;obtain⟨xl,x0,x1,x2,x3,x4,x5,x6,x7,x8⟩:=Xr.e9;have lz:=zh_ hown;have BA:=zb_ w1 (.cells #[(1:Int),id,k,te,log.length,(0:Int),(),(0:Int),false] 80);have MB:=Box.new w1 #[(1:Int),id,k,te,log.length,(0:Int),(),(0:Int),false] 80;have hBa:=za_ hBr BA;go_wp2_with fail;refine (KT _ hBa).mono ?_;rintro e w2 ⟨rfl,hb2⟩;replace Xr:=(Xr.below BA).below hb2;replace hBr:=za_ hBa hb2;replace hb:=za_ (za_ hb BA) hb2;replace hown:=zd_ (zd_ hown BA) hb2;replace MB:=MB.below hb2;have hz2:=hb2.size;simp only [World.size_alloc] at hz2;clear KT BA hBa hb2 xl x0 x1 x2 x3 x4 x5 x6 x7 x8;obtain⟨ml,m0,m1,m2,m3,m4,m5,m6,m7,m8⟩:=MB.e9;have f5:=MB.2.2 5;go_upto_region 9 with fail;obtain⟨W2,hW2⟩:∃W2,W2=w2.setCell ⟨w1.heap.size,5,none⟩ (.int .i64 tb):=⟨_,rfl⟩;have hC:Chg (fun q=>q=w1.heap.size) w2 W2:=by rw [hW2];exact Chg.setCell (S:=fun q=>q=w1.heap.size) (Chg.refl _ _) rfl _
    have M2:Box W2 w1.heap.size [(1:Int),id,k,te,log.length,tb,(),(0:Int),false]:=by rw [hW2];exact MB.set 5 _ (by simp)
    replace hown:=hC.owns hown (fun g hg e=>by have:=lz g hg;omega);replace hb:=Below.trans hb (hC.below (B:=W0.heap.size) hb.size (fun q hq=>by omega));replace hBr:=Below.trans hBr (hC.below (B:=w.heap.size) hBr.size (fun q hq=>by omega));have hz3:w2.heap.size≤W2.heap.size:=hC.size;have hz4:=hb.size;rw [←hW2];clear hW2 hC MB Xr ml m0 m1 m2 m3 m4 m5 m6 m7 m8 f5;obtain⟨ml,m0,m1,m2,m3,m4,m5,m6,m7,m8⟩:=M2.e9;have BA:=zb_ W2 (.cells #[(1:Int),id,k,te,log.length,tb,(),(0:Int),false] 80);have MB:=Box.new W2 #[(1:Int),id,k,te,log.length,tb,(),(0:Int),false] 80;have o2:=zd_ hown BA;replace hb:=za_ hb BA;clear hown hBr M2;go_wp2_with (at_builtin;refine vr_ _ rfl _ _ rfl rfl W0.heap.size _ az.length az rfl o2 W2.heap.size ⟨1,id,k,te,log.length,tb,0,false⟩ rfl MB (by omega) (by simp;omega) ?_;intro v' w' hown hgr;refine zs_.go ?_);replace hb:=hb.grown hgr (by simp;omega) (fun j hj=>(o2.lt j hj).1);clear hgr o2 MB BA ml m0 m1 m2 m3 m4 m5 m6 m7 m8;unfold zs_;go_wp2;go_roundw
    case rel=>exact⟨k+1,by omega,by go_num,by rw [HA.out,List.length_append];exact hown,hb⟩
    case measure=>simp [intOf];omega
  ·obtain rfl:k=pn:=by omega
   clear KT MT;go_wp2;go_ret;exact⟨_,rfl,zf_ hown (by omega),hBr⟩
theorem tZ_ (x:Int) (w:World):Calls Tryz.prog 168 #[(),x] w fun e w'=>e= .returned (.tuple #[(0:Int),false])∧Below w.heap.size w w':=by
 go_enter Tryz.func168,Tryz.ntmps168;go_wp2
 go_loopw [7,8] (fun i j wr=>i= .int .i64 0∧j= .int .i64 0∧wr=w) (fun _ _ _=>0)
 case atStart=>exact⟨rfl,rfl,rfl⟩
 case round=>
  obtain⟨rfl,rfl,rfl⟩:=hrel;go_wp2;go_ret2;exact⟨rfl,Below.refl _ _⟩
theorem uD_ (x:Int) (w:World) (b:Nat) (hv:IL w (.slice (some ⟨b,0,none⟩) 1 1) [x]):Calls Tryz.prog 169 #[(),(0:Int),.slice (some ⟨b,0,none⟩) 1 1] w fun e w'=>∃u,e= .returned u∧w'.ownsRow w.heap.size 3 1 u 1 ([x].map (.int .i64))∧Below w.heap.size w w':=by
 have o0:w.ownsRow w.heap.size 3 1 (.slice none 0 0) 0 (([]:List Int).map (.int .i64)):=World.ownsRow_nil _ _ _ _;go_enter Tryz.func169,Tryz.ntmps169;go_wp2_with (at_builtin;refine zy_ _ rfl _ _ rfl rfl w.heap.size _ 0 [] rfl o0 _ [x] rfl hv (by simp) (by simp) ?_;intro v' w' hown hgr;refine zs_.go ?_);replace hgr:w.grownBy w' none:=hgr;have hb:=(Below.refl w.heap.size w).grown hgr (Nat.le_refl _) (fun j hj=>by cases hj);obtain⟨ua,uc,rfl⟩:=ze_ hown;unfold zs_;go_wp2;go_ret;exact⟨_,rfl,hown,hb⟩
theorem qP_ (w:World):(Sem.run Tryz.prog (Instr.makeSlice 40 (.int .i64 1) (.int .i64 1)) w)= .ok (.slice (some ⟨w.heap.size,0,none⟩) 1 1) (w.alloc (.cells #[(0:Int)] 3)):=by kernel_rfl
theorem rm_ (te vo co ro:Int) (la:Option Addr) (ln lc:Nat) (va:Option Addr) (vn vc:Nat) (w:World):
  Calls Tryz.prog 170 #[.agg #[(0:Int),(1:Int),te,vo,.slice la ln lc,co,ro,.slice va vn vc,()]] w fun e w'=>∃u,e= .returned (.agg #[(0:Int),(1:Int),te,vo,.slice la ln lc,co,(2:Int),(),u])∧w'.ownsRow w.heap.size 3 1 u 1 ([(ln:Int)].map (.int .i64))∧Below w.heap.size w w':=by
 have MK:=qP_;go_enter Tryz.func170,Tryz.ntmps170;go_wp2;obtain⟨W0,hW0⟩:∃W0,W0=(w.alloc (.cells #[(0:Int),(1:Int),te,vo,.slice la ln lc,co,(2:Int),(),.slice (some ⟨w.heap.size+1+1,0,none⟩) 1 1] 42)).alloc (.cells #[(0:Int),(1:Int),te,vo,.slice la ln lc,co,(2:Int),(),.slice (some ⟨w.heap.size+1+1,0,none⟩) 1 1] 42):=⟨_,rfl⟩;have hs:W0.heap.size=w.heap.size+1+1:=by rw [hW0];simp
 have hb:Below w.heap.size w W0:=by rw [hW0];exact below2 _ _ _
 have ho:=World.ownsRow_lit (base:=w.heap.size) (size:=1) (e:=3) W0 #[(ln:Int)] 1 (by omega) (by simp [maxLen]) (by simp);rw [hs] at ho;exact bodyPost_ret (v:= .agg #[(0:Int),(1:Int),te,vo,.slice la ln lc,co,(2:Int),(),.slice (some ⟨w.heap.size+1+1,0,none⟩) 1 1]) (by simp [results,Tryz.results170,go_sem]) rfl ⟨_,rfl,by rw [←hW0];exact ho,by rw [←hW0];exact za_ hb (zb_ _ _)⟩
theorem pI_ {w:World} {b:Nat} {x:Int} (h:Box w b [x]):IL w (.slice (some ⟨b,0,none⟩) 1 1) [x]:=by
 refine⟨_,_,rfl,fun _=>⟨b,0,rfl,h.1,fun i hi=> ?_⟩⟩;obtain rfl:i=0:=by simp at hi;omega
 exact h.2.1 0 _ rfl
theorem tq_ (id pe te vo co ro:Int) (la:Option Addr) (ln lc:Nat) (w:World) (h2:2≤pe):
  Calls Tryz.prog 153 #[.agg #[id,pe,te,vo,.slice la ln lc,co,ro,(),()],id] w fun e w'=>∃u,e= .returned (.agg #[id,pe,te,vo,.slice la ln lc,co,ro,u,()])∧w'.ownsRow w.heap.size 3 1 u 1 ([id].map (.int .i64))∧Below w.heap.size w w':=by
 have hB:=below2 w (.cells #[id,pe,te,vo,.slice la ln lc,co,ro,(),()] 42) (.cells zN 42);have X:=(Box.new w #[id,pe,te,vo,.slice la ln lc,co,ro,(),()] 42).below (zb_ _ (.cells zN 42));have Y:=Box.new (w.alloc (.cells #[id,pe,te,vo,.slice la ln lc,co,ro,(),()] 42)) zN 42;rw [World.size_alloc] at Y;go_enter Tryz.func153,Tryz.ntmps153;go_wp2_with fail;refine (tZ_ _ _).mono ?_;rintro e w1 ⟨rfl,hb⟩;replace hB:=za_ hB hb;replace X:=X.below hb;replace Y:=Y.below hb;clear hb;have BA:=zb_ w1 (.cells #[id] 3);have V:=Box.new w1 #[id] 3;obtain⟨xl,x0,x1,x2,x3,x4,x5,x6,x7,x8⟩:=X.e9;have hz1:=hB.size;have hy1:=Y.1;go_wp2_with fail;refine (uD_ _ _ _ (pI_ V)).mono ?_;rintro e w2 ⟨u,rfl,hown,hb⟩;replace hB:=za_ (za_ hB BA) hb;replace X:=(X.below BA).below hb;replace Y:=(Y.below BA).below hb;have hz2:=hb.size;have gu:=zg_ hown;simp only [World.size_alloc] at hz2 gu;clear hb BA V xl x0 x1 x2 x3 x4 x5 x6 x7 x8;obtain⟨ua,uc,rfl⟩:=ze_ hown;obtain⟨xl,x0,x1,x2,x3,x4,x5,x6,x7,x8⟩:=X.e9;obtain⟨f0,f1,f2,f3,f4,f5,f6,f7,f8⟩:=X.f9;go_upto_region 4 with fail;obtain⟨W2,hW2⟩:∃W,W=w2.setCell ⟨w.heap.size,7,none⟩ (.slice ua 1 uc):=⟨_,rfl⟩;have hC:Chg (fun k=>k=w.heap.size) w2 W2:=by rw [hW2];exact Chg.setCell (S:=fun k=>k=w.heap.size) (Chg.refl _ _) rfl _
 replace hB:=hB.trans (hC.below (B:=w.heap.size) hB.size (fun k hk=>by omega));replace Y:=hC.box Y (by omega);replace X:Box W2 w.heap.size [id,pe,te,vo,.slice la ln lc,co,ro,.slice ua 1 uc,()]:=by rw [hW2];exact X.set 7 _ (by simp)
 replace hown:=hC.owns hown (fun b hb hh=>by have:=gu b hb;have hh:b=w.heap.size:=hh;omega);have hz3:=hC.size;rw [←hW2];clear hW2 hC xl x0 x1 x2 x3 x4 x5 x6 x7 x8 f0 f1 f2 f3 f4 f5 f6 f7 f8;obtain⟨xl,x0,x1,x2,x3,x4,x5,x6,x7,x8⟩:=X.e9;go_wp2_with fail;refine (yB_ _ _ _ _ _ _ _ _ _ _ _ (by decide) (by decide)).mono ?_;rintro e w3 ⟨rfl,hb⟩;replace hB:=za_ hB hb;replace X:=X.below hb;replace Y:=Y.below hb;replace hown:=zd_ hown hb;have hz4:=hb.size;clear hb xl x0 x1 x2 x3 x4 x5 x6 x7 x8;obtain⟨xl,x0,x1,x2,x3,x4,x5,x6,x7,x8⟩:=X.e9;have hq:decide (pe<2*1)=false:=by simp;omega
 rw [hq];have hC:=zk_ w3 (w.heap.size+1) id pe te vo (.slice la ln lc) co ro (.slice ua 1 uc) ();have Z:=zl_ Y id pe te vo (.slice la ln lc) co ro (.slice ua 1 uc) ();have hBE:=hB.trans (hC.below (B:=w.heap.size) hB.size (fun k hk=>by omega));have oE:=zf_ (hC.owns hown (fun b hb hh=>by have:=gu b hb;have hh:b=w.heap.size+1:=hh;omega)) (show w.heap.size≤_ from by first | omega | (simp only [World.size_alloc];omega));obtain⟨ql,q0,q1,q2,q3,q4,q5,q6,q7,q8⟩:=Y.e9;obtain⟨h0,h1,h2',h3,h4,h5,h6,h7,h8⟩:=Y.f9;clear hC hown hB X Y gu;obtain⟨hzl,t0,t1,t2,t3,t4,t5,t6,t7,t8⟩:=Z.e9;clear Z;unfold put9 at*;go_wp2;exact bodyPost_ret (v:= .agg #[id,pe,te,vo,.slice la ln lc,co,ro,.slice ua 1 uc,()]) (by simp [results,Tryz.results153,go_sem,t0,t1,t2,t3,t4,t5,t6,t7,t8]) rfl ⟨_,rfl,oE,hBE⟩
theorem rc_ (te vo co ro:Int) (la:Option Addr) (ln lc:Nat) (w:World):
  Calls Tryz.prog 153 #[.agg #[(0:Int),(1:Int),te,vo,.slice la ln lc,co,ro,(),()],(0:Int)] w fun e w'=>∃u,e= .returned (.agg #[(0:Int),(1:Int),te,vo,.slice la ln lc,co,(2:Int),(),u])∧w'.ownsRow w.heap.size 3 1 u 1 ([(ln:Int)].map (.int .i64))∧Below w.heap.size w w':=by
 have hB:=below2 w (.cells #[(0:Int),(1:Int),te,vo,.slice la ln lc,co,ro,(),()] 42) (.cells zN 42);have X:=(Box.new w #[(0:Int),(1:Int),te,vo,.slice la ln lc,co,ro,(),()] 42).below (zb_ _ (.cells zN 42));have Y:=Box.new (w.alloc (.cells #[(0:Int),(1:Int),te,vo,.slice la ln lc,co,ro,(),()] 42)) zN 42;rw [World.size_alloc] at Y;go_enter Tryz.func153,Tryz.ntmps153;go_wp2_with fail;refine (tZ_ _ _).mono ?_;rintro e w1 ⟨rfl,hb⟩;replace hB:=za_ hB hb;replace X:=X.below hb;replace Y:=Y.below hb;clear hb;have BA:=zb_ w1 (.cells #[(0:Int)] 3);have V:=Box.new w1 #[(0:Int)] 3;obtain⟨xl,x0,x1,x2,x3,x4,x5,x6,x7,x8⟩:=X.e9;have hz1:=hB.size;have hy1:=Y.1;go_wp2_with fail;refine (uD_ _ _ _ (pI_ V)).mono ?_;rintro e w2 ⟨u,rfl,hown,hb⟩;replace hB:=za_ (za_ hB BA) hb;replace X:=(X.below BA).below hb;replace Y:=(Y.below BA).below hb;have hz2:=hb.size;have gu:=zg_ hown;simp only [World.size_alloc] at hz2 gu;clear hb BA V xl x0 x1 x2 x3 x4 x5 x6 x7 x8;obtain⟨ua,uc,rfl⟩:=ze_ hown;obtain⟨xl,x0,x1,x2,x3,x4,x5,x6,x7,x8⟩:=X.e9;obtain⟨f0,f1,f2,f3,f4,f5,f6,f7,f8⟩:=X.f9;go_upto_region 4 with fail;obtain⟨W2,hW2⟩:∃W,W=w2.setCell ⟨w.heap.size,7,none⟩ (.slice ua 1 uc):=⟨_,rfl⟩;have hC:Chg (fun k=>k=w.heap.size) w2 W2:=by rw [hW2];exact Chg.setCell (S:=fun k=>k=w.heap.size) (Chg.refl _ _) rfl _
 replace hB:=hB.trans (hC.below (B:=w.heap.size) hB.size (fun k hk=>by omega));replace Y:=hC.box Y (by omega);replace X:Box W2 w.heap.size [(0:Int),(1:Int),te,vo,.slice la ln lc,co,ro,.slice ua 1 uc,()]:=by rw [hW2];exact X.set 7 _ (by simp)
 replace hown:=hC.owns hown (fun b hb hh=>by have:=gu b hb;have hh:b=w.heap.size:=hh;omega);have hz3:=hC.size;rw [←hW2];clear hW2 hC xl x0 x1 x2 x3 x4 x5 x6 x7 x8 f0 f1 f2 f3 f4 f5 f6 f7 f8;obtain⟨xl,x0,x1,x2,x3,x4,x5,x6,x7,x8⟩:=X.e9;go_wp2_with fail;refine (yB_ _ _ _ _ _ _ _ _ _ _ _ (by decide) (by decide)).mono ?_;rintro e w3 ⟨rfl,hb⟩;replace hB:=za_ hB hb;replace X:=X.below hb;replace Y:=Y.below hb;replace hown:=zd_ hown hb;have hz4:=hb.size;clear hb xl x0 x1 x2 x3 x4 x5 x6 x7 x8;obtain⟨xl,x0,x1,x2,x3,x4,x5,x6,x7,x8⟩:=X.e9;have hq:decide ((1:Int)<2*1)=true:=by decide
 rw [hq];go_wp2_with fail;refine (rm_ _ _ _ _ _ _ _ _ _ _ _).mono ?_;rintro e w4 ⟨u,rfl,hown,hb⟩;replace hB:=za_ hB hb;replace X:=X.below hb;replace Y:=Y.below hb;have hz5:=hb.size;replace gu:=zg_ hown;clear hb xl x0 x1 x2 x3 x4 x5 x6 x7 x8;obtain⟨za,zc,rfl⟩:=ze_ hown;have hC:=zk_ w4 (w.heap.size+1) (0:Int) (.int .i64 1) te vo (.slice la ln lc) co (.int .i64 2) () (.slice za 1 zc);have Z:=zl_ Y (0:Int) (.int .i64 1) te vo (.slice la ln lc) co (.int .i64 2) () (.slice za 1 zc);have hBE:=hB.trans (hC.below (B:=w.heap.size) hB.size (fun k hk=>by omega));have oE:=zf_ (hC.owns hown (fun b hb hh=>by have:=gu b hb;have hh:b=w.heap.size+1:=hh;omega)) (show w.heap.size≤_ from by first | omega | (simp only [World.size_alloc];omega));obtain⟨ql,q0,q1,q2,q3,q4,q5,q6,q7,q8⟩:=Y.e9;obtain⟨h0,h1,h2',h3,h4,h5,h6,h7,h8⟩:=Y.f9;clear hC hown hB X Y gu;obtain⟨hzl,t0,t1,t2,t3,t4,t5,t6,t7,t8⟩:=Z.e9;clear Z;unfold put9 at*;go_wp2;exact bodyPost_ret (v:= .agg #[(0:Int),(1:Int),te,vo,.slice la ln lc,co,(2:Int),(),.slice za 1 zc]) (by simp [results,Tryz.results153,go_sem,t0,t1,t2,t3,t4,t5,t6,t7,t8]) rfl ⟨_,rfl,oE,hBE⟩
def tmOk (g:Bool) (ro te:Int):Bool:=g&&(decide (ro≠2)&&decide (te<1000))
def tmN (id pe te co:Int) (log:List En):Nd:=if pe<2 then⟨id,pe,te+1,id,co,2,log,[],[(log.length:Int)]⟩ else⟨id,pe,te+1,id,co,1,log,[id],[]⟩
theorem xn_ (g:Bool) (ro te:Int):(tmOk g ro te=true∧g=true∧¬ro=2∧te<1000)∨(tmOk g ro te=false∧(g=false∨(g=true∧(ro=2∨(¬ro=2∧1000≤te))))):=by
 unfold tmOk
 cases g
 ·exact .inr ⟨rfl,.inl rfl⟩
 ·by_cases h1:ro=2
  ·exact .inr ⟨by simp [h1],.inr ⟨rfl,.inl h1⟩⟩
  ·by_cases h2:te<1000
   ·exact .inl ⟨by simp [h1,h2],rfl,h1,h2⟩
   ·exact .inr ⟨by simp [h2],.inr ⟨rfl,.inr ⟨h1,by omega⟩⟩⟩
theorem rd_ (id pe te vo co:Int) (la:Option Addr) (lc:Nat) (log:List En) (w:World) (h0:0≤id) (h1:id<pe):
  Calls Tryz.prog 153 #[.agg #[id,pe,te,vo,.slice la log.length lc,co,(1:Int),(),()],id] w fun e w'=>∃uv um,e= .returned (.agg #[id,pe,te,vo,.slice la log.length lc,co,.int .i64 (tmN id pe te co log).ro,uv,um])∧w'.ownsRow w.heap.size 3 1 uv (tmN id pe te co log).vs.length ((tmN id pe te co log).vs.map (.int .i64))∧w'.ownsRow w.heap.size 3 1 um (tmN id pe te co log).mt.length ((tmN id pe te co log).mt.map (.int .i64))∧(∀g,uv.ownBlock=some g→um.ownBlock≠some g)∧Below w.heap.size w w':=by
 by_cases h:pe<2
 ·obtain rfl:pe=1:=by omega
  obtain rfl:id=0:=by omega
  refine (rc_ te vo co 1 la log.length lc w).mono ?_;rintro e w' ⟨u,rfl,ho,hb⟩;exact⟨_,_,rfl,World.ownsRow_nil _ _ _ _,ho,fun g hg=>by simp [Value.ownBlock] at hg,hb⟩
 ·refine (tq_ id pe te vo co 1 la log.length lc w (by omega)).mono ?_;rintro e w' ⟨u,rfl,ho,hb⟩;simp only [tmN,h,if_false];exact⟨_,_,rfl,ho,World.ownsRow_nil _ _ _ _,fun g _ hg=>by simp [Value.ownBlock] at hg,hb⟩
theorem rr_ (id pe te vo co ro:Int) (vl vv vm:Value) (log:List En) (vs mt:List Int) (base:Nat) (w:World) (ho:OwnN w base vl vv vm log vs mt) (nl:log.length≤1048576) (nv:vs.length≤1048576) (nm:mt.length≤1048576) (ns:∀i (h:i<log.length),log[i].d.size≤1048576) (he:tmOk (zm_ id pe te vo co ro log vs mt) ro te=false):
  Calls Tryz.prog 126 #[.agg #[id,pe,te,vo,vl,co,ro,vv,vm]] w fun e w'=>∃ul uv um,e= .returned (.tuple #[.agg #[(0:Int),(0:Int),(0:Int),(0:Int),ul,(0:Int),(0:Int),uv,um],(),false])∧OwnN w' w.heap.size ul uv um [] [] []∧Below w.heap.size w w':=by
 obtain⟨W0,hW0,hB,X,Y,hz00⟩:=al2 w [id,pe,te,vo,vl,co,ro,vv,vm] 42 zN 42;have ho0:=ho.below hB;have K:=zM_ id pe te vo co ro vl vv vm log vs mt _ ho0.er ho0.iv ho0.im nl nv nm ns;generalize zm_ id pe te vo co ro log vs mt=g at*;obtain⟨⟨la,lc,rfl⟩,⟨va,vc,rfl⟩,ma,mc,rfl⟩:=ho.shapes;clear ns ho0 ho;rcases xn_ g ro te with⟨h,_⟩ | ⟨_,hcs⟩
 ·rw [he] at h;cases h
 clear he;go_enter Tryz.func126,Tryz.ntmps126;go_wp2_with fail;rw [←hW0];clear hW0;refine K.mono ?_;rintro e w1 ⟨rfl,hb⟩;replace hB:=za_ hB hb;replace Y:=Y.below hb;replace X:=X.below hb;clear K hb;have hC:=zk_ w1 (w.heap.size+1) (0:Int) (0:Int) (0:Int) (0:Int) () (0:Int) (0:Int) () ();have Z:=zl_ Y (0:Int) (0:Int) (0:Int) (0:Int) () (0:Int) (0:Int) () ();have hBE:=hB.trans (hC.b1 hB.size (by omega));have O:=OwnN.nil (put9 w1 (w.heap.size+1) (.int .i64 0) (.int .i64 0) (.int .i64 0) (.int .i64 0) (.slice none 0 0) (.int .i64 0) (.int .i64 0) (.slice none 0 0) (.slice none 0 0)) w.heap.size;obtain⟨hxl,x0,x1,x2,x3,x4,x5,x6,x7,x8⟩:=X.e9;obtain⟨hyl,y0,y1,y2,y3,y4,y5,y6,y7,y8⟩:=Y.e9;obtain⟨f0,f1,f2,f3,f4,f5,f6,f7,f8⟩:=Y.f9;obtain⟨hzl,t0,t1,t2,t3,t4,t5,t6,t7,t8⟩:=Z.e9;clear Z hC hB Y X;unfold put9 at*;rcases hcs with rfl | ⟨rfl,hcs⟩
 ·go_wp2;exact bodyPost_ret (v:= .tuple #[.agg zN,(),false]) (by simp [results,Tryz.results126,go_sem,t0,t1,t2,t3,t4,t5,t6,t7,t8]) rfl ⟨_,_,_,rfl,O,hBE⟩
 rcases hcs with rfl | ⟨h1,h2⟩
 ·go_wp2;exact bodyPost_ret (v:= .tuple #[.agg zN,(),false]) (by simp [results,Tryz.results126,go_sem,t0,t1,t2,t3,t4,t5,t6,t7,t8]) rfl ⟨_,_,_,rfl,O,hBE⟩
 ·have h1b:(ro==2)=false:=by simp [h1]
  go_wp2;exact bodyPost_ret (v:= .tuple #[.agg zN,(),false]) (by simp [results,Tryz.results126,go_sem,t0,t1,t2,t3,t4,t5,t6,t7,t8]) rfl ⟨_,_,_,rfl,O,hBE⟩
set_option maxHeartbeats 16000000
theorem yH_ {id pe te vo co ro:Int} {log:List En} {vs mt:List Int} (h:zm_ id pe te vo co ro log vs mt=true):0≤id∧id<pe∧pe≤7∧0≤te∧log.length≤60:=by
 rw [zL_] at h;simp [inB] at h;omega
theorem tM_ (id pe te vo co ro:Int) (vl vv vm:Value) (log:List En) (vs mt:List Int) (base:Nat) (w:World) (ho:OwnN w base vl vv vm log vs mt) (nl:log.length≤1048576) (nv:vs.length≤1048576) (nm:mt.length≤1048576) (ns:∀i (h:i<log.length),log[i].d.size≤1048576) (he:tmOk (zm_ id pe te vo co ro log vs mt) ro te=true):
  Calls Tryz.prog 126 #[.agg #[id,pe,te,vo,vl,co,ro,vv,vm]] w fun e w'=>∃ul uv um uq,e= .returned (.tuple #[.agg #[id,pe,(te+1:Int),id,ul,co,.int .i64 (tmN id pe te co log).ro,uv,um],uq,true])∧OwnN w' w.heap.size ul uv um log (tmN id pe te co log).vs (tmN id pe te co log).mt∧w'.ownsRow w.heap.size 80 9 uq (zC_ id (te+1) log.length (tmAt log log.length) pe.toNat).length (zW_ (zC_ id (te+1) log.length (tmAt log log.length) pe.toNat))∧Below w.heap.size w w':=by
 obtain⟨W0,hW0,hB,X,Y,hz00⟩:=al2 w [id,pe,te,vo,vl,co,ro,vv,vm] 42 zN 42;have ho0:=ho.below hB;have K:=zM_ id pe te vo co ro vl vv vm log vs mt _ ho0.er ho0.iv ho0.im nl nv nm ns;have K2:=fun W (h:Below w.heap.size w W)=>yK_ id pe te vo co ro vl vv vm log vs mt W (ho.below h).er (ho.below h).iv (ho.below h).im ho.nns.1 ho.nns.2.1 ho.nns.2.2 nl nv nm;have HG:zm_ id pe te vo co ro log vs mt=true→0≤id∧id<pe∧pe≤7∧0≤te∧log.length≤60:=yH_;generalize zm_ id pe te vo co ro log vs mt=g at*;obtain⟨⟨la,lc,rfl⟩,⟨va,vc,rfl⟩,ma,mc,rfl⟩:=ho.shapes;clear ns ho0 ho;rcases xn_ g ro te with⟨_,rfl,h1,h2⟩ | ⟨h,_⟩;rotate_left
 ·rw [he] at h;cases h
 obtain⟨i0,i1,i2,i3,i4⟩:=HG rfl;clear he HG;have KV:=fun W a c=>rd_ id pe (te+1) id co a c log W i0 i1;rw [show (tmN id pe (te+1) co log).ro=(tmN id pe te co log).ro from by unfold tmN;split <;>rfl,show (tmN id pe (te+1) co log).vs=(tmN id pe te co log).vs from by unfold tmN;split <;>rfl,show (tmN id pe (te+1) co log).mt=(tmN id pe te co log).mt from by unfold tmN;split <;>rfl] at KV;generalize (tmN id pe te co log).ro=r at*;generalize (tmN id pe te co log).vs=nv' at*;generalize (tmN id pe te co log).mt=nm' at*;go_enter Tryz.func126,Tryz.ntmps126;go_wp2_with fail;rw [←hW0];clear hW0;refine K.mono ?_;rintro e w1 ⟨rfl,hb⟩;replace hB:=za_ hB hb;replace Y:=Y.below hb;replace X:=X.below hb;have hz1:=hb.size;clear K hb;obtain⟨hxl,x0,x1,x2,x3,x4,x5,x6,x7,x8⟩:=X.e9;have h1b:(ro==2)=false:=by simp [h1]
 have h2b:¬(1000:Int)≤te:=by omega
 go_wp2_with fail;refine (K2 _ hB).mono ?_;rintro e w2 ⟨u1,u2,u3,rfl,O,hb⟩;replace hB:=za_ hB hb;replace Y:=Y.below hb;replace X:=X.below hb;have hz2:=hb.size;clear K2 hb hxl x0 x1 x2 x3 x4 x5 x6 x7 x8;have gl:=zg_ O.l;obtain⟨⟨ua,uc,rfl⟩,⟨pa,pc,rfl⟩,qa,qc,rfl⟩:=O.shapes;have ol:=O.l;clear O;go_wp2_with fail;refine (yU_ _ _ _ _ _ _ _ _ _ ua log.length uc rfl _ ⟨_,_,_,rfl⟩ ⟨_,_,_,rfl⟩).mono ?_;rintro e w3 ⟨rfl,hb⟩;replace hB:=za_ hB hb;replace Y:=Y.below hb;replace X:=X.below hb;replace ol:=zd_ ol hb;have hz3:=hb.size;clear hb;obtain⟨hxl,x0,x1,x2,x3,x4,x5,x6,x7,x8⟩:=X.e9;obtain⟨e0,e1,e2,e3,e4,e5,e6,e7,e8⟩:=X.f9;go_upto_region 4 with fail;obtain⟨W3,hW3,hC,put_⟩:=zj_ w3 X id pe te vo (.slice ua log.length uc) co (0:Int) () ();clear X;have X:=put_;clear put_;replace Y:=hC.box Y (by omega);replace ol:=hC.owns ol (fun b hb hh=>by have:=gl b hb;have hh:b=w.heap.size:=hh;omega);replace hB:=hB.trans (hC.b1 hB.size (by omega));have hz4:w3.heap.size≤W3.heap.size:=hC.size;unfold put9 at hW3;rw [←hW3];clear hW3 hC hxl x0 x1 x2 x3 x4 x5 x6 x7 x8 e0 e1 e2 e3 e4 e5 e6 e7 e8;obtain⟨hxl,x0,x1,x2,x3,x4,x5,x6,x7,x8⟩:=X.e9;obtain⟨e0,e1,e2,e3,e4,e5,e6,e7,e8⟩:=X.f9;go_upto_region 7 with fail;obtain⟨W4,hW4⟩:∃W,W=((W3.setCell ⟨w.heap.size,2,none⟩ (.int .i64 (te+1))).setCell ⟨w.heap.size,3,none⟩ (.int .i64 id)).setCell ⟨w.heap.size,6,none⟩ (.int .i64 1):=⟨_,rfl⟩;have hC:Chg (fun k=>k=w.heap.size) W3 W4:=by rw [hW4];exact Chg.setCell (S:=fun k=>k=w.heap.size) (Chg.setCell (S:=fun k=>k=w.heap.size) (Chg.setCell (S:=fun k=>k=w.heap.size) (Chg.refl _ _) rfl _) rfl _) rfl _
 replace X:Box W4 w.heap.size [id,pe,(te+1:Int),id,.slice ua log.length uc,co,(1:Int),(),()]:=by rw [hW4];exact ((X.set 2 _ (by simp)).set 3 _ (by simp)).set 6 _ (by simp)
 replace Y:=hC.box Y (by omega);replace ol:=hC.owns ol (fun b hb hh=>by have:=gl b hb;have hh:b=w.heap.size:=hh;omega);replace hB:=hB.trans (hC.b1 hB.size (by omega));have hz5:W3.heap.size≤W4.heap.size:=hC.size;rw [←hW4];clear hW4 hC hxl x0 x1 x2 x3 x4 x5 x6 x7 x8 e0 e1 e2 e3 e4 e5 e6 e7 e8;obtain⟨hxl,x0,x1,x2,x3,x4,x5,x6,x7,x8⟩:=X.e9;go_wp2_with fail;refine (KV _ ua uc).mono ?_;rintro e w5 ⟨uv,um,rfl,ov,om,hne,hb⟩;replace hB:=za_ hB hb;replace Y:=Y.below hb;replace X:=X.below hb;replace ol:=zd_ ol hb;have hz6:=hb.size;have gv:=zg_ ov;have gm:=zg_ om;clear hb KV hxl x0 x1 x2 x3 x4 x5 x6 x7 x8;obtain⟨xa,xc,rfl⟩:=ze_ ov;obtain⟨ya,yc,rfl⟩:=ze_ om;obtain⟨hxl,x0,x1,x2,x3,x4,x5,x6,x7,x8⟩:=X.e9;obtain⟨e0,e1,e2,e3,e4,e5,e6,e7,e8⟩:=X.f9;go_upto_region 8 with fail;obtain⟨W5,hW5,hC,put_⟩:=zj_ w5 X id pe (.int .i64 (te+1)) id (.slice ua log.length uc) co r (.slice xa nv'.length xc) (.slice ya nm'.length yc);clear X;have X:=put_;clear put_;replace Y:=hC.box Y (by omega);have O5:OwnN W5 (w.heap.size+1+1) (.slice ua log.length uc) (.slice xa nv'.length xc) (.slice ya nm'.length yc) log nv' nm':=⟨zf_ (hC.owns ol (fun b hb hh=>by have:=gl b hb;have hh:b=w.heap.size:=hh;omega)) (by omega),zf_ (hC.owns ov (fun b hb hh=>by have:=gv b hb;have hh:b=w.heap.size:=hh;omega)) (by omega),zf_ (hC.owns om (fun b hb hh=>by have:=gm b hb;have hh:b=w.heap.size:=hh;omega)) (by omega),hne⟩;replace hB:=hB.trans (hC.b1 hB.size (by omega));have hz7:w5.heap.size≤W5.heap.size:=hC.size;unfold put9 at hW5;rw [←hW5];clear hW5 hC hxl x0 x1 x2 x3 x4 x5 x6 x7 x8 e0 e1 e2 e3 e4 e5 e6 e7 e8 gl gv gm ol ov om hne;have gO:=fun b hb=>(O5.lt b hb).1;have KA:=fun W (h:Below W5.heap.size W5 W)=>vS_ id pe (te+1) id co r _ _ _ log nv' nm' W (O5.below h).er (O5.below h).iv (O5.below h).im nl (by omega) i2;obtain⟨az,HAZ⟩:∃az:List Mq,Hid (zC_ id (te+1) log.length (tmAt log log.length) pe.toNat=az):=⟨zC_ id (te+1) log.length (tmAt log log.length) pe.toNat,rfl⟩;rw [HAZ.out] at KA;have HO5:Hid (OwnN W5 (w.heap.size+1+1) (.slice ua log.length uc) (.slice xa nv'.length xc) (.slice ya nm'.length yc) log nv' nm'):=O5;clear O5;have hD:Below W5.heap.size W5 W5.drew:=(Below.refl _ _).drew;replace X:=X.below hD;replace Y:=Y.below hD;replace hB:=za_ hB hD;refine wp_region_held_drew (S:=fun w'=>Box w' w.heap.size [id,pe,(te+1:Int),id,.slice ua log.length uc,co,r,.slice xa nv'.length xc,.slice ya nm'.length yc]) (by kernel_rfl) X (fun zc_=> ?_);obtain⟨v0,hv0⟩:∃v0,v0=W5.drew:=⟨_,rfl⟩;rw [←hv0] at X Y hB hD ⊢;clear hv0;refine tkH 0 (.agg #[id,pe,(te+1:Int),id,.slice ua log.length uc,co,r,.slice xa nv'.length xc,.slice ya nm'.length yc]) rfl ?_ ?_
 ·intro wx hSw;have e0:=hSw.2.1 0 _ rfl;have e1:=hSw.2.1 1 _ rfl;have e2:=hSw.2.1 2 _ rfl;have e3:=hSw.2.1 3 _ rfl;have e4:=hSw.2.1 4 _ rfl;have e5:=hSw.2.1 5 _ rfl;have e6:=hSw.2.1 6 _ rfl;have e7:=hSw.2.1 7 _ rfl;have e8:=hSw.2.1 8 _ rfl;clear zc_;go_simp
 simp only [Act.put,sA_,sB_,sC_];refine tkH 1 (.agg #[id,pe,(te+1:Int),id,.slice ua log.length uc,co,r,.slice xa nv'.length xc,.slice ya nm'.length yc]) rfl ?_ ?_
 ·intro wx hSw;have e0:=hSw.2.1 0 _ rfl;have e1:=hSw.2.1 1 _ rfl;have e2:=hSw.2.1 2 _ rfl;have e3:=hSw.2.1 3 _ rfl;have e4:=hSw.2.1 4 _ rfl;have e5:=hSw.2.1 5 _ rfl;have e6:=hSw.2.1 6 _ rfl;have e7:=hSw.2.1 7 _ rfl;have e8:=hSw.2.1 8 _ rfl;clear zc_;go_simp
 simp only [Act.put,sA_,sB_,sC_];refine rd1 2 rfl (fun K hK=> ?_);clear zc_;go_simp;refine (KA _ hD).mono ?_;rintro e w7 ⟨uq,rfl,oq,hb7⟩;replace X:=X.below hb7;replace Y:=Y.below hb7;have hz8:=hB.size;have hyb:=hD.size;replace hB:=za_ hB hb7;have O7:=(HO5.out.below hD).below hb7;have gq:=zg_ oq;obtain⟨za,zc,rfl⟩:=ze_ oq;clear KA;refine hK.out _ _ X (fun zc_=> ?_);clear hK K;refine rd1 3 rfl (fun K hK=> ?_);clear zc_;have hC:=zk_ w7 (w.heap.size+1) id pe (.int .i64 (te+1)) id (.slice ua log.length uc) co r (.slice xa nv'.length xc) (.slice ya nm'.length yc);have Z:=zl_ Y id pe (.int .i64 (te+1)) id (.slice ua log.length uc) co r (.slice xa nv'.length xc) (.slice ya nm'.length yc);have X8:=hC.box X (by omega);have O8:=(O7.chg hC (fun b hb hh=>by have:=gO b hb;have hh:b=w.heap.size+1:=hh;omega)).mono (show w.heap.size≤w.heap.size+1+1 from by omega);have oE:=zf_ (hC.owns oq (fun b hb hh=>by have:=gq b hb;have hh:b=w.heap.size+1:=hh;omega)) (show w.heap.size≤_ from hz8);have hBE:=hB.trans (hC.b1 hB.size (by omega));obtain⟨hyl,y0,y1,y2,y3,y4,y5,y6,y7,y8⟩:=Y.e9;obtain⟨f0,f1,f2,f3,f4,f5,f6,f7,f8⟩:=Y.f9;clear hC X Y hB O7 HO5 hb7 hD oq gq gO;obtain⟨WZ,hWZ⟩:∃WZ,WZ=put9 w7 (w.heap.size+1) (.int .i64 id) (.int .i64 pe) (.int .i64 (te+1)) (.int .i64 id) (.slice ua log.length uc) (.int .i64 co) (.int .i64 r) (.slice xa nv'.length xc) (.slice ya nm'.length yc):=⟨_,rfl⟩;rw [←hWZ] at Z X8 O8 oE hBE;unfold put9 at hWZ;go_simp;rw [←hWZ];refine hK.out _ _ X8 (fun zc_=> ?_);clear hK K hWZ hyl y0 y1 y2 y3 y4 y5 y6 y7 y8 f0 f1 f2 f3 f4 f5 f6 f7 f8;refine tkH 4 (.slice za az.length zc) rfl ?_ ?_
 ·intro wx hSw;clear hSw zc_;go_simp
 simp only [Act.put,sA_,sB_,sC_];refine tkH 5 (.bool true) rfl ?_ ?_
 ·intro wx hSw;clear hSw zc_;go_simp
 simp only [Act.put,sA_,sB_,sC_];clear zc_;refine wpAnyH_done (by kernel_rfl) ?_ _;obtain⟨hzl,t0,t1,t2,t3,t4,t5,t6,t7,t8⟩:=Z.e9;clear Z X8;go_wp2;exact bodyPost_ret (v:= .tuple #[.agg #[id,pe,(te+1:Int),id,.slice ua log.length uc,co,r,.slice xa nv'.length xc,.slice ya nm'.length yc],.slice za az.length zc,true]) (by simp [results,Tryz.results126,go_sem,t0,t1,t2,t3,t4,t5,t6,t7,t8]) rfl ⟨_,_,_,_,rfl,O8,by rw [HAZ.out];exact oE,hBE⟩
set_option maxHeartbeats 8000000
theorem goodN_te {id pe te vo co ro:Int} {log:List En} {vs mt:List Int} (h:zm_ id pe te vo co ro log vs mt=true):te≤1000:=by
 rw [zL_] at h;simp [inB] at h;omega
theorem rg_ (id pe te vo co ro:Int) (vl vv vm:Value) (log:List En) (vs mt:List Int) (base:Nat) (w:World) (ho:OwnN w base vl vv vm log vs mt) (nl:log.length≤1048576) (nv:vs.length≤1048576) (nm:mt.length≤1048576) (ns:∀i (h:i<log.length),log[i].d.size≤1048576) (he:tmOk (zm_ id pe te vo co ro log vs mt) ro te=false):
  Calls Tryz.prog 91 #[.agg #[id,pe,te,vo,vl,co,ro,vv,vm]] w fun e w'=>∃ul uv um,e= .returned (.tuple #[.agg #[(0:Int),(0:Int),(0:Int),(0:Int),ul,(0:Int),(0:Int),uv,um],(),false])∧OwnN w' w.heap.size ul uv um [] [] []∧Below w.heap.size w w':=by
 obtain⟨W0,hW0,hB,X,Y,hz00⟩:=al2 w [id,pe,te,vo,vl,co,ro,vv,vm] 42 zN 42;have ho0:=ho.below hB;have K:=zx_ id pe te vo co ro vl vv vm log vs mt _ ho0.er ho0.iv ho0.im nl nv nm ns;have HG:zm_ id pe te vo co ro log vs mt=true→te≤1000:=goodN_te;generalize zm_ id pe te vo co ro log vs mt=g at*;obtain⟨⟨la,lc,rfl⟩,⟨va,vc,rfl⟩,ma,mc,rfl⟩:=ho.shapes;clear ns ho0 ho;rcases xn_ g ro te with⟨h,_⟩ | ⟨_,hcs⟩
 ·rw [he] at h;cases h
 clear he;go_enter Tryz.func91,Tryz.ntmps91;go_wp2_with fail;rw [←hW0];clear hW0;refine K.mono ?_;rintro e w1 ⟨rfl,hb⟩;replace hB:=za_ hB hb;replace Y:=Y.below hb;replace X:=X.below hb;clear K hb;have hC:=zk_ w1 (w.heap.size+1) (0:Int) (0:Int) (0:Int) (0:Int) () (0:Int) (0:Int) () ();have Z:=zl_ Y (0:Int) (0:Int) (0:Int) (0:Int) () (0:Int) (0:Int) () ();have hBE:=hB.trans (hC.b1 hB.size (by omega));have O:=OwnN.nil (put9 w1 (w.heap.size+1) (.int .i64 0) (.int .i64 0) (.int .i64 0) (.int .i64 0) (.slice none 0 0) (.int .i64 0) (.int .i64 0) (.slice none 0 0) (.slice none 0 0)) w.heap.size;obtain⟨hxl,x0,x1,x2,x3,x4,x5,x6,x7,x8⟩:=X.e9;obtain⟨hyl,y0,y1,y2,y3,y4,y5,y6,y7,y8⟩:=Y.e9;obtain⟨f0,f1,f2,f3,f4,f5,f6,f7,f8⟩:=Y.f9;obtain⟨hzl,t0,t1,t2,t3,t4,t5,t6,t7,t8⟩:=Z.e9;clear Z hC hB Y X;unfold put9 at*;rcases hcs with rfl | ⟨rfl,hcs⟩
 ·go_wp2;exact bodyPost_ret (v:= .tuple #[.agg zN,(),false]) (by simp [results,Tryz.results91,go_sem,t0,t1,t2,t3,t4,t5,t6,t7,t8]) rfl ⟨_,_,_,rfl,O,hBE⟩
 rcases hcs with rfl | ⟨h1,h2⟩
 ·go_wp2;exact bodyPost_ret (v:= .tuple #[.agg zN,(),false]) (by simp [results,Tryz.results91,go_sem,t0,t1,t2,t3,t4,t5,t6,t7,t8]) rfl ⟨_,_,_,rfl,O,hBE⟩
 ·obtain rfl:te=1000:=by have:=HG rfl;omega
  have h1b:(ro==2)=false:=by simp [h1]
  go_wp2;exact bodyPost_ret (v:= .tuple #[.agg zN,(),false]) (by simp [results,Tryz.results91,go_sem,t0,t1,t2,t3,t4,t5,t6,t7,t8]) rfl ⟨_,_,_,rfl,O,hBE⟩
theorem rp_ (te vo co ro:Int) (la:Option Addr) (lc:Nat) (log:List En) (va:Option Addr) (vn vc:Nat) (ma:Option Addr) (mn mc:Nat) (w:World) (hl:ER w (.slice la log.length lc) log) (nl:log.length≤1048576) (hc0:0≤co):
  Calls Tryz.prog 137 #[.agg #[(0:Int),(1:Int),te,vo,.slice la log.length lc,co,ro,.slice va vn vc,.slice ma mn mc]] w fun e w'=>∃u,e= .returned (.agg #[(0:Int),(1:Int),te,vo,.slice la log.length lc,(zv_ te 1 co log [(log.length:Int)] log.length:Int),(2:Int),(),u])∧w'.ownsRow w.heap.size 3 1 u 1 ([(log.length:Int)].map (.int .i64))∧Below w.heap.size w w':=by
 have MK:=qP_;obtain⟨W0,hW0⟩:∃W0,W0=(w.alloc (.cells #[(0:Int),(1:Int),te,vo,.slice la log.length lc,co,(2:Int),(),.slice (some ⟨w.heap.size+1+1,0,none⟩) 1 1] 42)).alloc (.cells zN 42):=⟨_,rfl⟩;have hs:W0.heap.size=w.heap.size+1+1:=by rw [hW0];simp
 have hB:Below w.heap.size w W0:=by rw [hW0];exact below2 _ _ _
 have Y:Box W0 (w.heap.size+1) zN:=by rw [hW0];exact bx2_1 ..
 have XX:Box W0 w.heap.size [(0:Int),(1:Int),te,vo,.slice la log.length lc,co,(2:Int),(),.slice (some ⟨w.heap.size+1+1,0,none⟩) 1 1]:=by rw [hW0];exact (Box.new w #[(0:Int),(1:Int),te,vo,.slice la log.length lc,co,(2:Int),(),.slice (some ⟨w.heap.size+1+1,0,none⟩) 1 1] 42).alloc _
 have BA:=zb_ W0 (.cells #[(log.length:Int)] 3);have V:=Box.new W0 #[(log.length:Int)] 3;have ho:=World.ownsRow_lit (base:=w.heap.size) (size:=1) (e:=3) W0 #[(log.length:Int)] 1 (by omega) (by simp [maxLen]) (by simp);rw [hs] at ho V;have gu:=zg_ ho;have hIL:=pI_ V;have hN:IL (W0.alloc (.cells #[(log.length:Int)] 3)) (.slice none 0 0) []:=⟨_,_,rfl,fun h=>absurd rfl h⟩;have KC:=yS_ 0 1 te vo co _ _ _ log [] [(log.length:Int)] _ ((hl.below hB).below BA) hN hIL nl (by simp) hc0;replace Y:=Y.below BA;replace XX:=XX.below BA;replace hB:=za_ hB BA;clear BA V hIL hN;generalize zv_ te 1 co log [(log.length:Int)] log.length=cm at*;go_enter Tryz.func137,Tryz.ntmps137;go_wp2_with fail;rw [←hW0];refine KC.mono ?_;rintro e w1 ⟨rfl,hb⟩;replace hB:=za_ hB hb;replace Y:=Y.below hb;replace ho:=zd_ ho hb;have hgu:w.heap.size+1+1≠w.heap.size+1:=by omega
 clear KC hb hW0 XX MK;have hC:=zk_ w1 (w.heap.size+1) (0:Int) (.int .i64 1) te vo (.slice la log.length lc) cm (.int .i64 2) () (.slice (some ⟨w.heap.size+1+1,0,none⟩) 1 1);have Z:=zl_ Y (0:Int) (.int .i64 1) te vo (.slice la log.length lc) cm (.int .i64 2) () (.slice (some ⟨w.heap.size+1+1,0,none⟩) 1 1);have hBE:=hB.trans (hC.b1 hB.size (by omega));have oE:=hC.owns ho (fun b hb hh=>by have hh:b=w.heap.size+1:=hh;have hb:w.heap.size+1+1=b:=(by simpa [Value.ownBlock] using hb);omega);obtain⟨ql,q0,q1,q2,q3,q4,q5,q6,q7,q8⟩:=Y.e9;obtain⟨h0,h1,h2,h3,h4,h5,h6,h7,h8⟩:=Y.f9;clear hC ho hB Y gu;obtain⟨hzl,t0,t1,t2,t3,t4,t5,t6,t7,t8⟩:=Z.e9;clear Z;unfold put9 at*;go_wp2;exact bodyPost_ret (v:= .agg #[(0:Int),(1:Int),te,vo,.slice la log.length lc,cm,(2:Int),(),.slice (some ⟨w.heap.size+1+1,0,none⟩) 1 1]) (by simp [results,Tryz.results137,go_sem,t0,t1,t2,t3,t4,t5,t6,t7,t8]) rfl ⟨_,rfl,oE,hBE⟩
end Go.Proofs.YtapfhhmimkkhnaaGreat
namespace Go.Proofs.YtapfhhmimkkhnaaGreat
open Go.RowKit Go.Maps
set_option linter.unusedVariables false
theorem gE_le (T:Int) (l:List En):∀a,gE T a l=true→∀k (h:k<l.length),l[k].t≤T:=by
 induction l with
 | nil=>intro a _ k h;simp at h
 | cons e r ih=>
  intro a hg k h;simp only [gE,Bool.and_eq_true,decide_eq_true_eq] at hg
  cases k with
  | zero=>exact hg.1.2
  | succ k=>exact ih _ hg.2 k (by simpa using h)
theorem uJ_ (te pe co:Int) (log:List En) (mt:List Int) (hn:∀k (h:k<log.length),log[k].t≠te):∀k,k≤log.length→zv_ te pe co log mt k=co:=by
 intro k
 induction k with
 | zero=>intro _;rfl
 | succ k ih=>
  intro hk;have h1:=hn k (by omega);have h2:log.getD k En.zero=log[k]:=by simp [List.getD,show k<log.length from by omega]
  unfold zv_;have h3:¬(log[k].t=te∧pe<2*(cI ((k+1:Nat):Int) mt:Int)):=fun h=>h1 h.1;rw [h2];simp only [h3,if_false,ih (by omega),ite_self]
theorem goodN_gE {id pe te vo co ro:Int} {log:List En} {vs mt:List Int} (h:zm_ id pe te vo co ro log vs mt=true):∀k (h:k<log.length),log[k].t≤te:=by
 rw [zL_] at h;simp only [Bool.and_eq_true] at h;exact gE_le te log 0 h.2.2.2.2.1.1
theorem tQ_ {id pe te vo co ro:Int} {log:List En} {vs mt:List Int} (h:zm_ id pe te vo co ro log vs mt=true) (p:Int) (m:List Int):zv_ (te+1) p co log m log.length=co:=
 uJ_ _ _ _ _ _ (fun k hk=>by have:=goodN_gE h k hk;omega) _ (Nat.le_refl _)
theorem pm_ {id pe te vo co ro:Int} {log:List En} {vs mt:List Int} (h:zm_ id pe te vo co ro log vs mt=true) (h2:¬ro=2):mt= []:=by
 rw [zL_] at h;simp only [Bool.and_eq_true] at h;have h':=h.2.2.2.2.2.2.2;unfold zH_ at h';simp [h2] at h';rcases h' with h' | h'
 ·exact h'.2.2
 ·exact h'.2.2
end Go.Proofs.YtapfhhmimkkhnaaGreat
