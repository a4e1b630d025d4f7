/-
  NewNode: both sides and the law's walk.
  NewCluster: both sides.
  A step of a play, plainly; what is good stays good.
-/
import Derived.Test.YtapfhhmimkkhnaaGreatN1ToA3
import Derived.Test.YtapfhhmimkkhnaaGreatCLToCN
import Derived.Test.YtapfhhmimkkhnaaGreatM2bToH0
import Derived.Test.YtapfhhmimkkhnaaGreatCAToCCm
import Derived.Test.YtapfhhmimkkhnaaGreatCFToCK
import Derived.Test.YtapfhhmimkkhnaaGreatG1ToRF7
import Derived.Test.YtapfhhmimkkhnaaGreatQ8ToQD
namespace Go.Proofs.YtapfhhmimkkhnaaGreat
open Go.RowKit
set_option linter.unusedVariables false
set_option maxRecDepth 100000
set_option maxHeartbeats 2000000
def sel (b:Bool) (x:Int):Int:=if b then x else 0
def newOk (id pe:Int):Bool:=inB pe 1 7&&inB id 0 (pe-1)
theorem newOk_good (id pe:Int):zn_ id pe 0 (-1) 0 0 [] [] []=newOk id pe:=by
 rw [zN_,goodRo_0];unfold newOk;rw [Bool.eq_iff_iff];simp [inB,gE];omega
theorem implNew_any (id pe:Int) (w:World):
  Calls Tryz.prog 99 #[id,pe] w fun e w'=>e= .returned (.tuple #[.agg #[(sel (newOk id pe) id:Int),(sel (newOk id pe) pe:Int),(0:Int),(sel (newOk id pe) (-1):Int),(),(0:Int),(0:Int),(),()],.bool (newOk id pe)])∧Below w.heap.size w w':=by
 obtain⟨W0,hW0,hB,X,Y,_⟩:=al2 w zN 42 [id,pe,(0:Int),(-1:Int),(),(0:Int),(0:Int),(),()] 42;have N0:IL W0 (.slice none 0 0) []:=⟨none,0,rfl,fun h=>absurd rfl h⟩;have K:=zO_ id pe 0 (-1) 0 0 (.slice none 0 0) (.slice none 0 0) (.slice none 0 0) [] [] [] W0 (ER_nil _) N0 N0 (by simp) (by simp) (by simp) (by simp);rw [newOk_good] at K;generalize newOk id pe=ok at*;go_enter Tryz.func99,Tryz.ntmps99;go_wp2_with fail;rw [←hW0];clear hW0;refine K.mono ?_;rintro e w1 ⟨rfl,hb⟩;replace hB:=za_ hB hb;replace X:=X.below hb;replace Y:=Y.below hb;clear K hb N0;have hz:=hB.size;obtain⟨hxl,x0,x1,x2,x3,x4,x5,x6,x7,x8⟩:=X.e9;obtain⟨f0,f1,f2,f3,f4,f5,f6,f7,f8⟩:=X.f9;obtain⟨hyl,y0,y1,y2,y3,y4,y5,y6,y7,y8⟩:=Y.e9
 cases ok
 ·have hC:=zl_ w1 w.heap.size (0:Int) (0:Int) (0:Int) (0:Int) () (0:Int) (0:Int) () ();have Z:=zm_ X (0:Int) (0:Int) (0:Int) (0:Int) () (0:Int) (0:Int) () ();have hBE:=hB.trans (hC.below (B:=w.heap.size) hz (fun k hk=>by omega));obtain⟨hzl,t0,t1,t2,t3,t4,t5,t6,t7,t8⟩:=Z.e9;clear Z hC hB X Y;unfold put9 at*;go_wp2;exact bodyPost_ret (v:= .tuple #[.agg zN,false]) (by simp [results,Tryz.results99,go_sem,t0,t1,t2,t3,t4,t5,t6,t7,t8]) rfl ⟨by simp [sel],hBE⟩
 ·have hC:=zl_ w1 w.heap.size id pe (0:Int) (.int .i64 (-1)) () (0:Int) (0:Int) () ();have Z:=zm_ X id pe (0:Int) (.int .i64 (-1)) () (0:Int) (0:Int) () ();have hBE:=hB.trans (hC.below (B:=w.heap.size) hz (fun k hk=>by omega));obtain⟨hzl,t0,t1,t2,t3,t4,t5,t6,t7,t8⟩:=Z.e9;clear Z hC hB X Y;unfold put9 at*;go_wp2;exact bodyPost_ret (v:= .tuple #[.agg #[id,pe,(0:Int),(-1:Int),(),(0:Int),(0:Int),(),()],true]) (by simp [results,Tryz.results99,go_sem,t0,t1,t2,t3,t4,t5,t6,t7,t8]) rfl ⟨by simp [sel],hBE⟩
theorem specNew_any (id pe:Int) (w:World):
  Calls Tryz.prog 98 #[id,pe] w fun e w'=>e= .returned (.tuple #[.agg #[(sel (newOk id pe) id:Int),(sel (newOk id pe) pe:Int),(0:Int),(sel (newOk id pe) (-1):Int),(),(0:Int),(0:Int),(),()],.bool (newOk id pe)])∧Below w.heap.size w w':=by
 have hB:=zb_ w (.cells zN 42);have KP:=fun W=>l11Peers_any pe W;have K1:=fun W=>zu_ id 0 (pe-1) W;have HO:Hid (newOk id pe=(inB pe 1 7&&inB id 0 (pe-1))):=rfl;generalize newOk id pe=ok at*;generalize hb1:inB pe 1 7=b1 at*;generalize inB id 0 (pe-1)=b2 at*;go_enter Tryz.func98,Tryz.ntmps98;go_wp2_with fail;refine (KP _).mono ?_;rintro e w1 ⟨rfl,hw⟩;subst hw
 cases b1
 ·go_wp2;refine bodyPost_ret (v:= .tuple #[.agg zN,false]) (by simp [results,Tryz.results98,go_sem]) rfl ⟨by rw [HO.out];simp [sel],?_⟩;exact zb_ _ _
 have pB:1≤pe∧pe≤7:=by simp [inB] at hb1;omega
 obtain⟨p1,p7⟩:=pB;clear hb1 KP;go_wp2_with fail;refine (K1 _).mono ?_;rintro e w1 ⟨rfl,hw⟩;subst hw;clear K1
 cases b2
 ·go_wp2;refine bodyPost_ret (v:= .tuple #[.agg zN,false]) (by simp [results,Tryz.results98,go_sem]) rfl ⟨by rw [HO.out];simp [sel],?_⟩;exact zb_ _ _
 ·go_wp2;refine bodyPost_ret (v:= .tuple #[.agg #[id,pe,(0:Int),(-1:Int),(),(0:Int),(0:Int),(),()],true]) (by simp [results,Tryz.results98,go_sem]) rfl ⟨by rw [HO.out];simp [sel],?_⟩;exact zb_ _ _
end Go.Proofs.YtapfhhmimkkhnaaGreat
namespace Go.Proofs.YtapfhhmimkkhnaaGreat
open Go.RowKit Go.Maps
set_option linter.unusedVariables false
set_option maxRecDepth 100000
set_option maxHeartbeats 16000000
def newN (i p:Int):Nd:=⟨i,p,0,-1,0,0,[],[],[]⟩
def yq_ (p:Int) (k:Nat):List Nv:=(List.range k).map fun i:Nat=>⟨newN i p,none,0,none,0,none,0⟩
theorem newNs_length (p:Int) (k:Nat):(yq_ p k).length=k:=by simp [yq_]
theorem newNs_succ (p:Int) (k:Nat):yq_ p (k+1)=yq_ p k++ [⟨newN k p,none,0,none,0,none,0⟩]:=by simp [yq_,List.range_succ]
theorem newNs_at (p:Int) (k i:Nat) (h:i<(yq_ p k).length):(yq_ p k)[i]=⟨newN i p,none,0,none,0,none,0⟩:=by simp [yq_]
def ncN (ok:Bool) (p:Int):List Nv:=if ok then yq_ p p.toNat else []
theorem wpList_append_nd (w:World) {ops:Array Oper} {rest:List Oper} {o:Oper} {a:Act} {Q:Exit→Act→World→Prop} (hgd:o.guard=none) (s y:Operand)
  (ho:o.op= .call ⟨.builtin .append,#[s,y],#[26,26]⟩) (hty:o.type=26)
  (base:Nat) (v:Value) (n:Nat) (zs:List Nv) (hs:a.eval s=v) (hown:w.ownsRow base 42 9 v n (zD_ zs))
  (b:Nat) (x:Nv) (hx:a.eval y= .slice (some ⟨b,0,none⟩) 1 1) (hI:Box w b x) (hn:n+1≤2000000) (hbase:base≤w.heap.size)
  (h:∀v' w',w'.ownsRow base 42 9 v' (n+1) (zD_ (zs++ [x]))→w.grownBy w' v.ownBlock→wpList Tryz.prog ops Q rest (a.put o.dst v') w'):wpList Tryz.prog ops Q (o::rest) a w:=by
 obtain⟨i0,hi,hz0,hzs,hzb⟩:=info_parts Tryz.info42;refine wpList_append_own _ hgd s y 26 ho base 42 i0 (.agg zN) 9 120 Tryz.underlying26 hi hz0 hzs hzb rfl (by decide) v n (zD_ zs) hs hown ⟨b,0,none⟩ 1 1 (zD_ [x]) hx rfl ?_ ?_ (by unfold maxLen;omega) (by omega) hbase fun v' w' h1 h2 _=>h v' w' (by rw [flatN_append];exact h1) h2
 ·intro j u hj;rw [show (⟨b,0,none⟩:Addr).add j=⟨b,j,none⟩ from by simp [Addr.add];omega];exact hI.2.1 j u hj
 ·intro u hu;simp only [zD_,List.mem_cons,List.not_mem_nil,or_false] at hu;rcases hu with rfl | rfl | rfl | rfl | rfl | rfl | rfl | rfl | rfl <;>rfl
theorem implNewC_any (p:Int) (w:World):
  Calls Tryz.prog 51 #[p] w fun e w'=>∃u,e= .returned (.tuple #[.agg #[u,(),()],.bool (inB p 1 7)])∧w'.ownsRow w.heap.size 42 9 u (ncN (inB p 1 7) p).length (zD_ (ncN (inB p 1 7) p))∧Below w.heap.size w w':=by
 have hB1:=zb_ w (.cells z3 30);have X1:=Box.new w z3 30;by_cases hq:1≤p∧p≤7;rotate_left
 ·have hib:inB p 1 7=false:=by simp [inB];omega
  rw [hib];have hn:ncN false p= []:=rfl;rw [hn];clear hB1;have hB1:=zb_ w (.cells z3 30);go_enter Tryz.func51,Tryz.ntmps51;by_cases h1:p<1
  ·go_wp2;exact bodyPost_ret (v:= .tuple #[.agg z3,false]) (by simp [results,Tryz.results51,go_sem]) rfl ⟨_,rfl,World.ownsRow_nil _ _ _ _,hB1⟩
  have h2:7<p:=by omega
  go_wp2;exact bodyPost_ret (v:= .tuple #[.agg z3,false]) (by simp [results,Tryz.results51,go_sem]) rfl ⟨_,rfl,World.ownsRow_nil _ _ _ _,hB1⟩
 have hib:inB p 1 7=true:=by simp [inB];omega
 obtain⟨pn,rfl⟩:=Int.eq_ofNat_of_zero_le (show 0≤p from by omega);have hn:ncN true pn=yq_ pn pn:=by simp [ncN]
 rw [hib,hn];have hp1:1≤pn:=by omega
 have hp7:pn≤7:=by omega
 clear hn hq;obtain⟨W0,hW0,hB,X,Y,_⟩:=al2 w z3 30 z3 30;have hz0:=Y.1;clear X1 hB1;have q1:¬(pn:Int)<1:=by omega
 have q2:¬7<(pn:Int):=by omega
 go_enter Tryz.func51,Tryz.ntmps51;go_wp2;rw [←hW0];clear hW0
 go_loopw [16] (fun i wr=>∃(k:Nat) (z:Value),k≤pn∧i= .int .i64 k∧Box wr w.heap.size z3∧Box wr (w.heap.size+1) [z,(),()]∧wr.ownsRow (w.heap.size+1+1) 42 9 z k (zD_ (yq_ pn k))∧Below w.heap.size w wr) (fun i _=>pn-(intOf i).toNat)
 case atStart=>exact⟨0,.slice none 0 0,Nat.zero_le _,rfl,X,Y,World.ownsRow_nil _ _ _ _,hB⟩
 case round=>
  obtain⟨k,z,hk,rfl,Xr,Yr,hown,hb⟩:=hrel;clear X Y hB;obtain⟨za,zc,rfl⟩:=ze_ hown;have hz:=Yr.1;by_cases hlt:k<pn
  ·have KN:=fun W=>implNew_any k pn W;rw [show newOk (k:Int) pn=true from by simp [newOk,inB] <;>omega] at KN;simp only [sel,if_true] at KN;go_wp2_with fail;refine (KN _).mono ?_;rintro e w1 ⟨rfl,hb1⟩;replace Xr:=Xr.below hb1;replace Yr:=Yr.below hb1;replace hown:=zd_ hown hb1;replace hb:=za_ hb hb1;have hz1:=hb1.size;clear KN hb1;have BA:=zb_ w1 (.cells #[k,pn,(0:Int),(-1:Int),(),(0:Int),(0:Int),(),()] 42);have MB:=Box.new w1 #[k,pn,(0:Int),(-1:Int),(),(0:Int),(0:Int),(),()] 42;replace Xr:=Xr.below BA;replace Yr:=Yr.below BA;replace hown:=zd_ hown BA;replace hb:=za_ hb BA;clear BA;obtain⟨W1,hW1⟩:∃W1,W1=w1.alloc (.cells #[k,pn,(0:Int),(-1:Int),(),(0:Int),(0:Int),(),()] 42):=⟨_,rfl⟩;rw [←hW1] at Xr Yr hown hb MB;have hz2:w1.heap.size<W1.heap.size:=by rw [hW1];simp
   obtain⟨yl,y0,y1,y2⟩:=Yr.c3;obtain⟨ml,m0,m1,m2,m3,m4,m5,m6,m7,m8⟩:=MB.e9;go_upto_region 8 with fail;rw [←hW1];clear hW1;have BA:=zb_ W1 (.cells #[k,pn,(0:Int),(-1:Int),(),(0:Int),(0:Int),(),()] 42);have NB:=Box.new W1 #[k,pn,(0:Int),(-1:Int),(),(0:Int),(0:Int),(),()] 42;have o2:=zd_ hown BA;replace Xr:=Xr.below BA;replace Yr:=Yr.below BA;replace hb:=za_ hb BA;clear BA hown MB;go_wp2_with (at_builtin;refine wpList_append_nd _ rfl _ _ rfl rfl (w.heap.size+1+1) _ k (yq_ pn k) rfl o2 W1.heap.size ⟨newN k pn,none,0,none,0,none,0⟩ rfl NB (by omega) (by simp;omega) ?_;intro v' w' hown hgr;refine zz_.go ?_);have gl:=zh_ o2;have hb4:Below (w.heap.size+1+1) (W1.alloc (.cells #[k,pn,(0:Int),(-1:Int),(),(0:Int),(0:Int),(),()] 42)) w':=(Below.refl _ _).grown hgr (by simp;omega) (fun q hq=>gl q hq);replace Xr:=Xr.under hb4 (by omega);replace Yr:=Yr.under hb4 (by omega);replace hb:=hb.trans (hb4.mono (by omega));clear hgr o2 NB gl hb4 yl y0 y1 y2 ml m0 m1 m2 m3 m4 m5 m6 m7 m8;rw [←newNs_succ] at hown;obtain⟨va,vc,rfl⟩:=ze_ hown;have gh:=zh_ hown;obtain⟨yl,y0,y1,y2⟩:=Yr.c3;have f0:=Yr.2.2 0;have hC:Chg (fun q=>q=w.heap.size+1) w' (w'.setCell ⟨w.heap.size+1,0,none⟩ (.slice va (k+1) vc)):=Chg.setCell (S:=fun q=>q=w.heap.size+1) (Chg.refl _ _) rfl _;have X2:=hC.box Xr (by omega);have Y2:Box (w'.setCell ⟨w.heap.size+1,0,none⟩ (.slice va (k+1) vc)) (w.heap.size+1) [.slice va (k+1) vc,(),()]:=Yr.set 0 _ (by simp);have HO:=hC.owns hown (fun q hq e=>by have:=gh q hq;omega);have hbz:=hb.size;have hB2:=hb.trans (hC.below (B:=w.heap.size) hb.size (fun q hq=>by omega));clear hC hown Xr Yr hb gh;unfold zz_;go_wp2;go_roundw
   case rel=>exact⟨k+1,_,by omega,by go_num,X2,Y2,HO,hB2⟩
   case measure=>simp [intOf];omega
  ·obtain rfl:k=pn:=by omega
   have hC:=put3_chg wr w.heap.size (.slice za k zc) () ();have Z:=put3_box Xr (.slice za k zc) () ();have gh:=zh_ hown;have o9:=hC.owns (zf_ hown (show w.heap.size≤w.heap.size+1+1 from by omega)) (fun q hq e=>by have:=gh q hq;have e:q=w.heap.size:=e;omega);have hBE:=hb.trans (hC.b1 hb.size (by omega));obtain⟨xl,x0,x1,x2⟩:=Xr.c3;obtain⟨f0,f1,f2⟩:=Xr.f3;obtain⟨yl,y0,y1,y2⟩:=Yr.c3;clear hC hown Xr Yr hb gh;obtain⟨zl,t0,t1,t2⟩:=Z.c3;clear Z;unfold put3 at*;go_wp2;exact bodyPost_ret (v:= .tuple #[.agg #[.slice za k zc,(),()],true]) (by simp [results,Tryz.results51,go_sem,t0,t1,t2]) rfl ⟨_,rfl,by rw [newNs_length];exact o9,hBE⟩
theorem specNewC_any (p:Int) (w:World):
  Calls Tryz.prog 49 #[p] w fun e w'=>∃u,e= .returned (.tuple #[.agg #[u,(),()],.bool (inB p 1 7)])∧w'.ownsRow w.heap.size 42 9 u (ncN (inB p 1 7) p).length (zD_ (ncN (inB p 1 7) p))∧Below w.heap.size w w':=by
 have hB1:=zb_ w (.cells z3 30);have X1:=Box.new w z3 30;have KP:=fun W=>l11Peers_any p W;by_cases hq:1≤p∧p≤7;rotate_left
 ·have hib:inB p 1 7=false:=by simp [inB];omega
  rw [hib];have hn:ncN false p= []:=rfl;rw [hn];rw [hib] at KP;go_enter Tryz.func49,Tryz.ntmps49;go_wp2_with fail;refine (KP _).mono ?_;rintro e w1 ⟨rfl,hw⟩;subst hw;clear KP;go_wp2;exact bodyPost_ret (v:= .tuple #[.agg z3,false]) (by simp [results,Tryz.results49,go_sem]) rfl ⟨_,rfl,World.ownsRow_nil _ _ _ _,hB1⟩
 have hib:inB p 1 7=true:=by simp [inB];omega
 obtain⟨pn,rfl⟩:=Int.eq_ofNat_of_zero_le (show 0≤p from by omega);have hn:ncN true pn=yq_ pn pn:=by simp [ncN]
 rw [hib,hn];have hp1:1≤pn:=by omega
 have hp7:pn≤7:=by omega
 clear hn hq;obtain⟨W0,hW0,hB,X,Y,_⟩:=al2 w z3 30 z3 30;have hz0:=Y.1;clear X1 hB1;rw [hib] at KP;clear hib;go_enter Tryz.func49,Tryz.ntmps49;go_wp2_with fail;refine (KP _).mono ?_;rintro e w1 ⟨rfl,hw⟩;subst hw;clear KP;go_wp2;rw [←hW0];clear hW0
 go_loopw [5] (fun i wr=>∃(k:Nat) (z:Value),k≤pn∧i= .int .i64 k∧Box wr w.heap.size z3∧Box wr (w.heap.size+1) [z,(),()]∧wr.ownsRow (w.heap.size+1+1) 42 9 z k (zD_ (yq_ pn k))∧Below w.heap.size w wr) (fun i _=>pn-(intOf i).toNat)
 case atStart=>exact⟨0,.slice none 0 0,Nat.zero_le _,rfl,X,Y,World.ownsRow_nil _ _ _ _,hB⟩
 case round=>
  obtain⟨k,z,hk,rfl,Xr,Yr,hown,hb⟩:=hrel;clear X Y hB;obtain⟨za,zc,rfl⟩:=ze_ hown;have hz:=Yr.1;by_cases hlt:k<pn
  ·have KN:=fun W=>specNew_any k pn W;rw [show newOk (k:Int) pn=true from by simp [newOk,inB] <;>omega] at KN;simp only [sel,if_true] at KN;go_wp2_with fail;refine (KN _).mono ?_;rintro e w1 ⟨rfl,hb1⟩;replace Xr:=Xr.below hb1;replace Yr:=Yr.below hb1;replace hown:=zd_ hown hb1;replace hb:=za_ hb hb1;have hz1:=hb1.size;clear KN hb1;have BA:=zb_ w1 (.cells #[k,pn,(0:Int),(-1:Int),(),(0:Int),(0:Int),(),()] 42);have MB:=Box.new w1 #[k,pn,(0:Int),(-1:Int),(),(0:Int),(0:Int),(),()] 42;replace Xr:=Xr.below BA;replace Yr:=Yr.below BA;replace hown:=zd_ hown BA;replace hb:=za_ hb BA;clear BA;obtain⟨W1,hW1⟩:∃W1,W1=w1.alloc (.cells #[k,pn,(0:Int),(-1:Int),(),(0:Int),(0:Int),(),()] 42):=⟨_,rfl⟩;rw [←hW1] at Xr Yr hown hb MB;have hz2:w1.heap.size<W1.heap.size:=by rw [hW1];simp
   obtain⟨yl,y0,y1,y2⟩:=Yr.c3;obtain⟨ml,m0,m1,m2,m3,m4,m5,m6,m7,m8⟩:=MB.e9;go_upto_region 8 with fail;rw [←hW1];clear hW1;have BA:=zb_ W1 (.cells #[k,pn,(0:Int),(-1:Int),(),(0:Int),(0:Int),(),()] 42);have NB:=Box.new W1 #[k,pn,(0:Int),(-1:Int),(),(0:Int),(0:Int),(),()] 42;have o2:=zd_ hown BA;replace Xr:=Xr.below BA;replace Yr:=Yr.below BA;replace hb:=za_ hb BA;clear BA hown MB;go_wp2_with (at_builtin;refine wpList_append_nd _ rfl _ _ rfl rfl (w.heap.size+1+1) _ k (yq_ pn k) rfl o2 W1.heap.size ⟨newN k pn,none,0,none,0,none,0⟩ rfl NB (by omega) (by simp;omega) ?_;intro v' w' hown hgr;refine zz_.go ?_);have gl:=zh_ o2;have hb4:Below (w.heap.size+1+1) (W1.alloc (.cells #[k,pn,(0:Int),(-1:Int),(),(0:Int),(0:Int),(),()] 42)) w':=(Below.refl _ _).grown hgr (by simp;omega) (fun q hq=>gl q hq);replace Xr:=Xr.under hb4 (by omega);replace Yr:=Yr.under hb4 (by omega);replace hb:=hb.trans (hb4.mono (by omega));clear hgr o2 NB gl hb4 yl y0 y1 y2 ml m0 m1 m2 m3 m4 m5 m6 m7 m8;rw [←newNs_succ] at hown;obtain⟨va,vc,rfl⟩:=ze_ hown;have gh:=zh_ hown;obtain⟨yl,y0,y1,y2⟩:=Yr.c3;have f0:=Yr.2.2 0;have hC:Chg (fun q=>q=w.heap.size+1) w' (w'.setCell ⟨w.heap.size+1,0,none⟩ (.slice va (k+1) vc)):=Chg.setCell (S:=fun q=>q=w.heap.size+1) (Chg.refl _ _) rfl _;have X2:=hC.box Xr (by omega);have Y2:Box (w'.setCell ⟨w.heap.size+1,0,none⟩ (.slice va (k+1) vc)) (w.heap.size+1) [.slice va (k+1) vc,(),()]:=Yr.set 0 _ (by simp);have HO:=hC.owns hown (fun q hq e=>by have:=gh q hq;omega);have hbz:=hb.size;have hB2:=hb.trans (hC.below (B:=w.heap.size) hb.size (fun q hq=>by omega));clear hC hown Xr Yr hb gh;unfold zz_;go_wp2;go_roundw
   case rel=>exact⟨k+1,_,by omega,by go_num,X2,Y2,HO,hB2⟩
   case measure=>simp [intOf];omega
  ·obtain rfl:k=pn:=by omega
   have hC:=put3_chg wr w.heap.size (.slice za k zc) () ();have Z:=put3_box Xr (.slice za k zc) () ();have gh:=zh_ hown;have o9:=hC.owns (zf_ hown (show w.heap.size≤w.heap.size+1+1 from by omega)) (fun q hq e=>by have:=gh q hq;have e:q=w.heap.size:=e;omega);have hBE:=hb.trans (hC.b1 hb.size (by omega));obtain⟨xl,x0,x1,x2⟩:=Xr.c3;obtain⟨f0,f1,f2⟩:=Xr.f3;obtain⟨yl,y0,y1,y2⟩:=Yr.c3;clear hC hown Xr Yr hb gh;obtain⟨zl,t0,t1,t2⟩:=Z.c3;clear Z;unfold put3 at*;go_wp2;exact bodyPost_ret (v:= .tuple #[.agg #[.slice za k zc,(),()],true]) (by simp [results,Tryz.results49,go_sem,t0,t1,t2]) rfl ⟨_,rfl,by rw [newNs_length];exact o9,hBE⟩
end Go.Proofs.YtapfhhmimkkhnaaGreat
namespace Go.Proofs.YtapfhhmimkkhnaaGreat
set_option linter.unusedVariables false
structure Gd (x:Nd):Prop where
 p1:1≤x.pe
 p7:x.pe≤7
 i0:0≤x.id
 ip:x.id<x.pe
 t0:0≤x.te
 t1:x.te≤1000
 v0: -1≤x.vo
 vp:x.vo<x.pe
 lg:gE x.te 0 x.log=true
 ll:x.log.length≤60
 c0:0≤x.co
 cl:x.co≤(x.log.length:Int)
 ro:zI_ x.id x.pe x.te x.vo x.ro x.log.length x.vs x.mt=true
theorem Gd.of {x:Nd} (h:gN x=true):Gd x:=by
 unfold gN at h;rw [zN_] at h;simp only [Bool.and_eq_true,inB,decide_eq_true_eq] at h;obtain⟨⟨a1,a2⟩,⟨b1,b2⟩,⟨c1,c2⟩,⟨d1,d2⟩,⟨e1,e2⟩,⟨f1,f2⟩,_,g⟩:=h;exact⟨a1,a2,b1,by omega,c1,c2,d1,by omega,e1,by omega,f1,f2,g⟩
theorem ro_in {id pe te vo ro n:Int} {vs mt:List Int} (h:zI_ id pe te vo ro n vs mt=true):0≤ro∧ro≤2:=by
 by_cases h0:ro=0
 ·omega
 ·by_cases h1:ro=1
  ·omega
  ·by_cases h2:ro=2
   ·omega
   ·rw [goodRo_x _ _ _ _ _ _ _ _ h0 h1 h2] at h;cases h
theorem Gd.good {x:Nd} (h:Gd x):gN x=true:=by
 unfold gN;rw [zN_];have:=ro_in h.ro;simp only [Bool.and_eq_true,inB,decide_eq_true_eq];exact⟨⟨h.p1,h.p7⟩,⟨h.i0,by have:=h.ip;omega⟩,⟨h.t0,h.t1⟩,⟨h.v0,by have:=h.vp;omega⟩,⟨h.lg,by have:=h.ll;omega⟩,⟨h.c0,h.cl⟩,⟨this.1,this.2⟩,h.ro⟩
theorem Gd.r0 {x:Nd} (h:Gd x) (e:x.ro=0):x.vs= []∧x.mt= []:=by
 have:=h.ro;rw [e,goodRo_0] at this;simp only [Bool.and_eq_true,decide_eq_true_eq] at this;exact⟨List.eq_nil_iff_length_eq_zero.2 (by omega),List.eq_nil_iff_length_eq_zero.2 (by omega)⟩
theorem Gd.r1 {x:Nd} (h:Gd x) (e:x.ro=1):x.vo=x.id∧1≤x.te∧gV x.pe x.vs=true∧hsI x.vs x.id=true∧¬x.pe<2*(x.vs.length:Int)∧x.mt= []:=by
 have:=h.ro;rw [e,goodRo_1] at this;simp only [ownT,goodVs,Bool.and_eq_true,decide_eq_true_eq,Bool.not_eq_true',decide_eq_false_iff_not] at this;obtain⟨⟨⟨a,b⟩,c,d,f⟩,g⟩:=this;exact⟨a,b,c,d,f,List.eq_nil_iff_length_eq_zero.2 (by omega)⟩
theorem Gd.r2 {x:Nd} (h:Gd x) (e:x.ro=2):x.vo=x.id∧1≤x.te∧x.vs= []∧(x.mt.length:Int)=x.pe∧gM x.log.length x.mt=true∧x.mt.getD x.id.toNat 0=(x.log.length:Int):=by
 have:=h.ro;rw [e,goodRo_2] at this;simp only [ownT,goodMt,Bool.and_eq_true,decide_eq_true_eq] at this;obtain⟨⟨⟨a,b⟩,c⟩,d,f,g⟩:=this;exact⟨a,b,List.eq_nil_iff_length_eq_zero.2 (by omega),d,f,g⟩
theorem gM_all {n:Int} {mt:List Int} (h:gM n mt=true) (i:Nat) (hi:i<mt.length):0≤mt[i]∧mt[i]≤n:=by
 unfold gM at h;rw [List.all_eq_true] at h;have:=h mt[i] (List.getElem_mem hi);simpa using this
theorem gM_of {n:Int} {mt:List Int} (h:∀i (hi:i<mt.length),0≤mt[i]∧mt[i]≤n):gM n mt=true:=by
 unfold gM;rw [List.all_eq_true];intro v hv;obtain⟨i,hi,rfl⟩:=List.getElem_of_mem hv;simpa using h i hi
theorem gE_mono {T T':Int} (hT:T≤T') (l:List En):∀a,gE T a l=true→gE T' a l=true:=by
 induction l with
 | nil=>intro a _;rfl
 | cons e r ih=>
  intro a h;simp only [gE,Bool.and_eq_true,decide_eq_true_eq] at h ⊢;exact⟨⟨h.1.1,by omega⟩,ih _ h.2⟩
theorem gE_all {T:Int} {l:List En} :∀ {a:Int},gE T a l=true→∀i (h:i<l.length),yp_ l[i]=true∧a≤l[i].t∧l[i].t≤T:=by
 induction l with
 | nil=>intro a _ i h;simp at h
 | cons e r ih=>
  intro a h i hi;simp only [gE,Bool.and_eq_true,decide_eq_true_eq] at h
  cases i with
  | zero=>exact⟨h.1.1.1,h.1.1.2,h.1.2⟩
  | succ i=>
   have:=ih h.2 i (by simpa using hi);simp only [List.getElem_cons_succ];exact⟨this.1,by omega,this.2.2⟩
theorem gE_srt {T:Int} {l:List En} :∀ {a:Int},gE T a l=true→Srt l:=by
 induction l with
 | nil=>intro a _ i j hi;simp at hi
 | cons e r ih=>
  intro a h i j hi hj hij;simp only [gE,Bool.and_eq_true,decide_eq_true_eq] at h
  cases i with
  | zero=>
   cases j with
   | zero=>exact Int.le_refl _
   | succ j=>exact (gE_all h.2 j (by simpa using hj)).2.1
  | succ i=>
   cases j with
   | zero=>omega
   | succ j=>exact ih h.2 i j (by simpa using hi) (by simpa using hj) (by omega)
theorem gE_of {T:Int} {l:List En} :∀ {a:Int},(∀i (h:i<l.length),yp_ l[i]=true∧a≤l[i].t∧l[i].t≤T)→Srt l→gE T a l=true:=by
 induction l with
 | nil=>intro a _ _;rfl
 | cons e r ih=>
  intro a h hs;have h0:=h 0 (by simp);simp only [List.getElem_cons_zero] at h0;simp only [gE,Bool.and_eq_true,decide_eq_true_eq];refine⟨⟨⟨h0.1,h0.2.1⟩,h0.2.2⟩,ih (fun i hi=> ?_) (fun i j hi hj hij=> ?_)⟩
  ·have h1:=h (i+1) (by simpa using hi);simp only [List.getElem_cons_succ] at h1;have h2:=hs 0 (i+1) (by simp) (by simpa using hi) (by omega);simp only [List.getElem_cons_zero,List.getElem_cons_succ] at h2;exact⟨h1.1,h2,h1.2.2⟩
  ·have:=hs (i+1) (j+1) (by simpa using hi) (by simpa using hj) (by omega);simpa using this
theorem gE_take {T:Int} {l:List En} {a:Int} (h:gE T a l=true) (k:Nat):gE T a (l.take k)=true:=by
 refine gE_of (fun i hi=> ?_) (fun i j hi hj hij=> ?_)
 ·simp only [List.length_take] at hi;simp only [List.getElem_take];exact gE_all h i (by omega)
 ·simp only [List.length_take] at hi hj;simp only [List.getElem_take];exact gE_srt h i j (by omega) (by omega) hij
theorem gE_dropk {T:Int} {l:List En} {a:Int} (h:gE T a l=true) (k:Nat):gE T a (l.drop k)=true:=by
 refine gE_of (fun i hi=> ?_) (fun i j hi hj hij=> ?_)
 ·simp only [List.length_drop] at hi;simp only [List.getElem_drop];exact gE_all h _ (by omega)
 ·simp only [List.length_drop] at hi hj;simp only [List.getElem_drop];exact gE_srt h _ _ (by omega) (by omega) (by omega)
theorem Gd.up {x:Nd} (h:Gd x) {T:Int} (h1:x.te≤T) (h2:T≤1000):Gd (upN x T):=
 ⟨h.p1,h.p7,h.i0,h.ip,by have:=h.t0;show 0≤T;omega,h2,(by show (-1:Int)≤ -1;omega),by have:=h.p1;show (-1:Int)<x.pe;omega,gE_mono h1 _ _ h.lg,h.ll,h.c0,h.cl,by show zI_ _ _ _ _ 0 _ [] []=true;rw [goodRo_0];simp⟩
theorem Gd.fo {x:Nd} (h:Gd x):Gd (foN x):=
 ⟨h.p1,h.p7,h.i0,h.ip,h.t0,h.t1,h.v0,h.vp,h.lg,h.ll,h.c0,h.cl,by show zI_ _ _ _ _ 0 _ [] []=true;rw [goodRo_0];simp⟩
theorem Gd.hmU {x:Nd} (h:Gd x) {T:Int} (h2:T≤1000):Gd (hmU x T):=by
 unfold Go.Proofs.YtapfhhmimkkhnaaGreat.hmU
 split
 ·exact h.up (by omega) h2
 ·exact h
def crX (x:Nd):Nd:= { foN x with co:=0 }
theorem Gd.crash {x:Nd} (h:Gd x):Gd (crX x):=
 ⟨h.p1,h.p7,h.i0,h.ip,h.t0,h.t1,h.v0,h.vp,h.lg,h.ll,Int.le_refl _,by show (0:Int)≤_;omega,by show zI_ _ _ _ _ 0 _ [] []=true;rw [goodRo_0];simp⟩
theorem crX_settled (x:Nd):zA_ (crX x):=by simp [zA_,cmN,foN,crX]
def tmX (x:Nd):Nd:=tmN x.id x.pe x.te x.co x.log
def ofQ (q:Mq):Ms:=⟨q.ki,q.fr,q.dst,q.te,q.ix,q.be,q.co,q.ye,[]⟩
def tmA (x:Nd):List Ms:=(zE_ x.id (x.te+1) x.log.length (tmAt x.log x.log.length) x.pe.toNat).map ofQ
theorem Gd.tm {x:Nd} (h:Gd x) (ht:x.te<1000):Gd (tmX x):=by
 have h1:=h.p1;have h2:=h.i0;have h3:=h.ip;have h4:=h.t0;unfold tmX tmN
 split
 ·have e0:x.id=0:=by omega
  have e1:x.pe=1:=by omega
  refine⟨h.p1,h.p7,h.i0,h.ip,by dsimp only;omega,by dsimp only;omega,by dsimp only;omega,h.ip,gE_mono (show x.te≤x.te+1 by omega) _ _ h.lg,h.ll,h.c0,h.cl,?_⟩;show zI_ _ _ _ _ 2 _ [] [(x.log.length:Int)]=true;rw [goodRo_2,e0,e1];simp [ownT,goodMt,gM];omega
 ·refine⟨h.p1,h.p7,h.i0,h.ip,by dsimp only;omega,by dsimp only;omega,by dsimp only;omega,h.ip,gE_mono (show x.te≤x.te+1 by omega) _ _ h.lg,h.ll,h.c0,h.cl,?_⟩;show zI_ _ _ _ _ 1 _ [x.id] []=true;rw [goodRo_1];simp [ownT,goodVs,gV,vTo,vAt,isP,hsI];omega
theorem Gd.terms {x:Nd} (h:Gd x):∀k (hk:k<x.log.length),1≤x.log[k].t∧x.log[k].t≤x.te:=fun k hk=>by
 have:=gE_all h.lg k hk;have h1:=this.1;simp only [yp_,Bool.and_eq_true,decide_eq_true_eq] at h1;exact⟨by omega,this.2.2⟩
theorem Gd.tmAt {x:Nd} (h:Gd x) (i:Nat) (hi:i≤x.log.length):0≤tmAt x.log i∧tmAt x.log i≤x.te:=by
 unfold Go.Proofs.YtapfhhmimkkhnaaGreat.tmAt
 split
 ·exact⟨Int.le_refl _,h.t0⟩
 ·have h1:i-1<x.log.length:=by omega
  have h2:=h.terms (i-1) h1;have e:x.log.getD (i-1) En.zero=x.log[i-1]:=by simp [List.getD,h1]
  rw [e];omega
theorem tmX_settled {x:Nd} (h:Gd x):zA_ (tmX x):=by
 unfold zA_ tmX tmN
 split
 ·have e:zs_ (x.te+1) x.pe x.co x.log [(x.log.length:Int)] x.log.length=x.co:=comTo_none _ _ _ _ _ (fun k hk=>by have:=h.terms k hk;omega) _ (Nat.le_refl _);simp only [cmN,if_true,e]
 ·simp [cmN]
def prX (x:Nd) (d:ByteArray):Nd:=prN true x.id x.pe x.te x.vo x.co x.log x.vs x.mt d
theorem Gd.pr {x:Nd} (h:Gd x) (hr:x.ro=2) (d:ByteArray) (hl:x.log.length<60) (hd:(d.size:Int)≤100):Gd (prX x d):=by
 obtain⟨a,b,c,e,f,g⟩:=h.r2 hr;have h1:=h.p1;have h2:=h.i0;have h3:=h.ip;have h4:=h.t1;have h5:=h.c0;have h6:=h.cl;have hlen:(x.log++ [(⟨x.te,d⟩:En)]).length=x.log.length+1:=by simp
 have hc:=comTo_what x.te x.pe x.co (x.log++ [⟨x.te,d⟩]) (x.mt.set x.id.toNat ((x.log.length:Int)+1)) (x.log.length+1) (by rw [hlen];omega);refine⟨h.p1,h.p7,h.i0,h.ip,h.t0,h.t1,h.v0,h.vp,?_,?_,?_,?_,?_⟩
 ·show gE x.te 0 (x.log++ [⟨x.te,d⟩])=true;refine gE_of (fun i hi=> ?_) (fun i j hi hj hij=> ?_)
  ·rw [hlen] at hi;by_cases hil:i<x.log.length
   ·rw [List.getElem_append_left hil];exact gE_all h.lg i hil
   ·obtain rfl:i=x.log.length:=by omega
    rw [List.getElem_append_right (Nat.le_refl _)];simp [yp_];omega
  ·rw [hlen] at hi hj;by_cases hjl:j<x.log.length
   ·rw [List.getElem_append_left hjl,List.getElem_append_left (by omega)];exact gE_srt h.lg i j (by omega) hjl hij
   ·obtain rfl:j=x.log.length:=by omega
    rw [List.getElem_append_right (Nat.le_refl _)];by_cases hil:i<x.log.length
    ·rw [List.getElem_append_left hil];simpa using (h.terms i hil).2
    ·obtain rfl:i=x.log.length:=by omega
     rw [List.getElem_append_right (Nat.le_refl _)];exact Int.le_refl _
 ·show (x.log++ [(⟨x.te,d⟩:En)]).length≤60;rw [hlen];omega
 ·show 0≤zs_ _ _ _ _ _ _;rcases hc with e1 | ⟨q,hq,e1,_⟩ <;>rw [e1] <;>omega
 ·show zs_ _ _ _ _ _ _≤(((x.log++ [(⟨x.te,d⟩:En)]).length:Nat):Int);rcases hc with e1 | ⟨q,hq,e1,_⟩ <;>rw [e1] <;>omega
 ·show zI_ x.id x.pe x.te x.vo 2 (((x.log++ [(⟨x.te,d⟩:En)]).length:Nat):Int) x.vs (x.mt.set x.id.toNat ((x.log.length:Int)+1))=true;rw [goodRo_2,hlen,c];have hi:x.id.toNat<x.mt.length:=by omega
  have hm:gM ((x.log.length+1:Nat):Int) (x.mt.set x.id.toNat ((x.log.length:Int)+1))=true:=by
   refine gM_of fun i hi'=> ?_;simp only [List.length_set] at hi';rw [List.getElem_set]
   split
   ·omega
   ·have:=gM_all f i hi';omega
  have hg:(x.mt.set x.id.toNat ((x.log.length:Int)+1)).getD x.id.toNat 0=((x.log.length+1:Nat):Int):=by
   simp [List.getD,hi]
  simp only [ownT,goodMt,hm,hg,a,List.length_set,List.length_nil];simp;exact⟨b,e⟩
theorem prX_settled (x:Nd) (d:ByteArray):zA_ (prX x d):=by
 have:=cmN_settled ({ id:=x.id,pe:=x.pe,te:=x.te,vo:=x.vo,co:=x.co,ro:=2,log:=x.log++ [⟨x.te,d⟩],vs:=x.vs,mt:=x.mt.set x.id.toNat ((x.log.length:Int)+1) } :Nd);simpa [cmN,prX,prN] using this
end Go.Proofs.YtapfhhmimkkhnaaGreat
