/-
  A cluster of one's own, changed: a node put, messages sent, one taken out, a lead noted.
  slices.Concat of two rows of entries.
  Rows of nodes, of messages and of leads appended to a row of one's own; slices of rows.
-/
import Derived.Test.YtapfhhmimkkhnaaGreatRS1ToLE
import Derived.Lib.AppendZeros
namespace Go.Proofs.YtapfhhmimkkhnaaGreat
open Go.RowKit Go.Maps
set_option linter.unusedVariables false
set_option maxRecDepth 100000
theorem zz_ {w w':World} {v:Value} (h:w.grownBy w' v.ownBlock):Chg (fun b=>v.ownBlock=some b) w w':=
 ⟨h.os,h.tape,h.output,h.size,fun k hk hs=>h.block k hk fun e=>hs e.symm⟩
theorem zr_.append {α:Type} {P:World→Nat→α→Prop} {B:α→Nat→Prop} {w:World} {lo hi hi':Nat} {l m:List α} (h:zr_ P B w lo hi l) (k:zr_ P B w hi hi' m):zr_ P B w lo hi' (l++m):=by
 have e1:=h.1;have e2:=k.1;refine⟨Nat.le_trans e1 e2,fun i hi=> ?_,fun i j h1 h2 hij b=> ?_⟩
 ·by_cases hil:i<l.length
  ·simp only [List.getElem_append_left hil];obtain⟨⟨c,hc,hp⟩,hb⟩:=h.2.1 i hil;exact⟨⟨c,hc,hp⟩,fun b q=>⟨(hb b q).1,Nat.lt_of_lt_of_le (hb b q).2 e2⟩⟩
  ·have him:i-l.length<m.length:=by simp at hi;omega
   simp only [List.getElem_append_right (Nat.le_of_not_lt hil)];obtain⟨⟨c,hc,hp⟩,hb⟩:=k.2.1 _ him;exact⟨⟨c,Nat.le_trans e1 hc,hp⟩,fun b q=>⟨Nat.le_trans e1 (hb b q).1,(hb b q).2⟩⟩
 ·simp only [List.length_append] at h1 h2;by_cases hil:i<l.length
  ·by_cases hjl:j<l.length
   ·simp only [List.getElem_append_left hil,List.getElem_append_left hjl];exact h.2.2 i j hil hjl hij b
   ·have hjm:j-l.length<m.length:=by omega
    simp only [List.getElem_append_left hil,List.getElem_append_right (Nat.le_of_not_lt hjl)];intro q1 q2;have:=((h.2.1 i hil).2 b q1).2;have:=((k.2.1 _ hjm).2 b q2).1;omega
  ·have him:i-l.length<m.length:=by omega
   by_cases hjl:j<l.length
   ·simp only [List.getElem_append_left hjl,List.getElem_append_right (Nat.le_of_not_lt hil)];intro q1 q2;have:=((h.2.1 j hjl).2 b q2).2;have:=((k.2.1 _ him).2 b q1).1;omega
   ·have hjm:j-l.length<m.length:=by omega
    simp only [List.getElem_append_right (Nat.le_of_not_lt hil),List.getElem_append_right (Nat.le_of_not_lt hjl)];exact k.2.2 _ _ him hjm (by omega) b
theorem zr_.bare {w:World} {lo hi:Nat} {A:List Mv} (h:lo≤hi) (ha:∀a∈A,a.ea=none∧a.ec=0∧a.q.es= []):zr_ PM BM w lo hi A:=by
 have f:∀i (hi:i<A.length),(Value.slice A[i].ea A[i].q.es.length A[i].ec)= .slice none 0 0∧A[i].q.es= []:=fun i hi=>by
  obtain⟨a,b,c⟩:=ha _ (List.getElem_mem hi);exact⟨by rw [a,b,c];rfl,c⟩
 refine⟨h,fun i hi'=>⟨⟨lo,Nat.le_refl _,?_⟩,fun b hb=> ?_⟩,fun i j h1 h2 hij b hb=> ?_⟩
 ·unfold PM;rw [(f i hi').1,(f i hi').2];exact World.ownsRow_nil _ _ _ _
 ·unfold BM at hb;rw [(f i hi').1] at hb;cases hb
 ·unfold BM at hb;rw [(f i h1).1] at hb;cases hb
theorem zr_.takeM {α:Type} {P:World→Nat→α→Prop} {B:α→Nat→Prop} {w:World} {lo hi:Nat} {l:List α} (h:zr_ P B w lo hi l) (k:Nat):zr_ P B w lo hi (l.take k):=by
 refine⟨h.1,fun i hi'=> ?_,fun i j h1 h2 hij b=> ?_⟩
 ·simp only [List.length_take] at hi';rw [List.getElem_take];exact h.2.1 i (by omega)
 ·simp only [List.length_take] at h1 h2;rw [List.getElem_take,List.getElem_take];exact h.2.2 i j (by omega) (by omega) hij b
theorem OwnC.hiN {w:World} {lo hi hi':Nat} {vn vm vl:Value} {N:List Nv} {M:List Mv} {L:List Ld} (h:OwnC w lo hi vn vm vl N M L) (hh:hi≤hi'):OwnC w lo hi' vn vm vl N M L:=
 ⟨h.n,h.m,h.l,h.cn.hi hh,h.cm.hi hh,h.ap,fun b hb=>Nat.lt_of_lt_of_le (h.bn b hb) hh,fun b hb=>Nat.lt_of_lt_of_le (h.bm b hb) hh,fun b hb=>Nat.lt_of_lt_of_le (h.bl b hb) hh⟩
theorem OwnC.loN {w:World} {lo lo' hi:Nat} {vn vm vl:Value} {N:List Nv} {M:List Mv} {L:List Ld} (h:OwnC w lo hi vn vm vl N M L) (hh:lo'≤lo):OwnC w lo' hi vn vm vl N M L:=
 ⟨zf_ h.n hh,zf_ h.m hh,zf_ h.l hh,h.cn.lo hh,h.cm.lo hh,h.ap,h.bn,h.bm,h.bl⟩
theorem OwnC.chains {W W':World} {lo hi:Nat} {vn vm vl:Value} {N:List Nv} {M:List Mv} {L:List Ld} (h:OwnC W lo hi vn vm vl N M L) {S:Nat→Prop} (hC:Chg S W W') (hS:∀b,S b→vn.ownBlock=some b∨vm.ownBlock=some b∨vl.ownBlock=some b∨hi≤b):zr_ PN BN W' lo hi N∧zr_ PM BM W' lo hi M:=by
 refine⟨h.cn.mapI fun i hi c hp hb=>OwnN.chg hp hC fun b h1 h2=> ?_,h.cm.mapI fun i hi c hp hb=>hC.owns hp fun b h1 h2=> ?_⟩
 ·rcases hS b h2 with q | q | q | q
  ·exact PN.row_ne hp h.n (by decide) (by decide) b h1 q
  ·exact PN.row_ne hp h.m (by decide) (by decide) b h1 q
  ·exact PN.row_ne hp h.l (by decide) (by decide) b h1 q
  ·have:=(hb b h1).2;omega
 ·rcases hS b h2 with q | q | q | q
  ·exact PM.row_ne hp h.n (by decide) b h1 q
  ·exact PM.row_ne hp h.m (by decide) b h1 q
  ·exact PM.row_ne hp h.l (by decide) b h1 q
  ·have:=(hb b h1).2;omega
theorem OwnC.setN {W W':World} {lo hi hi':Nat} {vn vm vl:Value} {N:List Nv} {M:List Mv} {L:List Ld} (h:OwnC W lo hi vn vm vl N M L) (j:Nat) (x:Nv) (ho:W'.ownsRow lo 42 9 vn N.length (zI_ (N.set j x))) (hC:Chg (fun b=>vn.ownBlock=some b∨hi≤b) W W') (hx:PN W' hi x) (hlt:∀b,BN x b→b<hi') (hh:hi≤hi'):OwnC W' lo hi' vn vm vl (N.set j x) M L:=by
 obtain⟨c1,c2⟩:=h.chains hC fun b q=>q.elim .inl fun q=> .inr (.inr (.inr q));refine⟨by rw [List.length_set];exact ho,hC.owns h.m fun b hb q=>q.elim (zn_ h.m h.n (by decide) b hb) fun q=>by have:=h.bm b hb;omega,hC.owns h.l fun b hb q=>q.elim (zn_ h.l h.n (by decide) b hb) fun q=>by have:=h.bl b hb;omega,?_,c2.hi hh,?_,fun b hb=>Nat.lt_of_lt_of_le (h.bn b hb) hh,fun b hb=>Nat.lt_of_lt_of_le (h.bm b hb) hh,fun b hb=>Nat.lt_of_lt_of_le (h.bl b hb) hh⟩
 ·refine (c1.hi hh).put j x ⟨hi,h.lohi,hx⟩ (fun b hb=>⟨Nat.le_trans h.lohi (PN.in hx b hb).1,hlt b hb⟩) fun i hi' hij b h1 h2=> ?_;have:=(PN.in hx b h1).1;have:=((h.cn.2.1 i hi').2 b h2).2;omega
 ·intro i k h1 h2 b;simp only [List.length_set] at h1;by_cases hij:j=i
  ·subst hij;simp only [List.getElem_set_self];intro q1 q2;have:=(PN.in hx b q1).1;have:=((h.cm.2.1 k h2).2 b q2).2;omega
  ·simp only [List.getElem_set_ne hij];exact h.ap i k h1 h2 b
theorem OwnC.push {W W':World} {lo hi hi':Nat} {vn vm vl vm':Value} {N:List Nv} {M A:List Mv} {L:List Ld} (h:OwnC W lo hi vn vm vl N M L) (ho:W'.ownsRow lo 80 9 vm' (M++A).length (zo_ (M++A))) (hC:Chg (fun b=>vm.ownBlock=some b∨hi≤b) W W') (hv:∀b,vm'.ownBlock=some b→b<hi') (hh:hi≤hi') (hA:zr_ PM BM W' hi hi' A):OwnC W' lo hi' vn vm' vl N (M++A) L:=by
 obtain⟨c1,c2⟩:=h.chains hC fun b q=>q.elim (fun q=> .inr (.inl q)) fun q=> .inr (.inr (.inr q));refine⟨hC.owns h.n fun b hb q=>q.elim (zn_ h.n h.m (by decide) b hb) fun q=>by have:=h.bn b hb;omega,ho,hC.owns h.l fun b hb q=>q.elim (zn_ h.l h.m (by decide) b hb) fun q=>by have:=h.bl b hb;omega,c1.hi hh,c2.append hA,?_,fun b hb=>Nat.lt_of_lt_of_le (h.bn b hb) hh,hv,fun b hb=>Nat.lt_of_lt_of_le (h.bl b hb) hh⟩;intro i k h1 h2 b;by_cases hkl:k<M.length
 ·simp only [List.getElem_append_left hkl];exact h.ap i k h1 hkl b
 ·have hkm:k-M.length<A.length:=by simp at h2;omega
  simp only [List.getElem_append_right (Nat.le_of_not_lt hkl)];intro q1 q2;have:=((h.cn.2.1 i h1).2 b q1).2;have:=((hA.2.1 _ hkm).2 b q2).1;omega
theorem OwnC.out {W W':World} {lo hi hi':Nat} {vn vm vl vm':Value} {N:List Nv} {M:List Mv} {L:List Ld} (h:OwnC W lo hi vn vm vl N M L) (k:Nat) (ho:W'.ownsRow lo 80 9 vm' (M.eraseIdx k).length (zo_ (M.eraseIdx k))) (hC:Chg (fun b=>vm.ownBlock=some b∨hi≤b) W W') (hv:∀b,vm'.ownBlock=some b→b<hi') (hh:hi≤hi'):OwnC W' lo hi' vn vm' vl N (M.eraseIdx k) L:=by
 obtain⟨c1,c2⟩:=h.chains hC fun b q=>q.elim (fun q=> .inr (.inl q)) fun q=> .inr (.inr (.inr q));refine⟨hC.owns h.n fun b hb q=>q.elim (zn_ h.n h.m (by decide) b hb) fun q=>by have:=h.bn b hb;omega,ho,hC.owns h.l fun b hb q=>q.elim (zn_ h.l h.m (by decide) b hb) fun q=>by have:=h.bl b hb;omega,c1.hi hh,(c2.out k).hi hh,?_,fun b hb=>Nat.lt_of_lt_of_le (h.bn b hb) hh,hv,fun b hb=>Nat.lt_of_lt_of_le (h.bl b hb) hh⟩;intro i j h1 h2 b;have hj:∃q,∃hq:q<M.length,(M.eraseIdx k)[j]=M[q]:=by
  have hm:(M.eraseIdx k)[j]∈M:=List.mem_of_mem_eraseIdx (List.getElem_mem h2);obtain⟨q,hq,e⟩:=List.getElem_of_mem hm;exact⟨q,hq,e.symm⟩
 obtain⟨q,hq,e⟩:=hj;rw [e];exact h.ap i q h1 hq b
theorem OwnC.lead {W W':World} {lo hi hi':Nat} {vn vm vl vl':Value} {N:List Nv} {M:List Mv} {L L':List Ld} (h:OwnC W lo hi vn vm vl N M L) (ho:W'.ownsRow lo 34 2 vl' L'.length (yN_ L')) (hC:Chg (fun b=>vl.ownBlock=some b∨hi≤b) W W') (hv:∀b,vl'.ownBlock=some b→b<hi') (hh:hi≤hi'):OwnC W' lo hi' vn vm vl' N M L':=by
 obtain⟨c1,c2⟩:=h.chains hC fun b q=>q.elim (fun q=> .inr (.inr (.inl q))) fun q=> .inr (.inr (.inr q));exact⟨hC.owns h.n fun b hb q=>q.elim (zn_ h.n h.l (by decide) b hb) fun q=>by have:=h.bn b hb;omega,hC.owns h.m fun b hb q=>q.elim (zn_ h.m h.l (by decide) b hb) fun q=>by have:=h.bm b hb;omega,ho,c1.hi hh,c2.hi hh,h.ap,fun b hb=>Nat.lt_of_lt_of_le (h.bn b hb) hh,fun b hb=>Nat.lt_of_lt_of_le (h.bm b hb) hh,hv⟩
theorem OwnC.of {w:World} {lo mid hi:Nat} {vn vm vl:Value} {N:List Nv} {M:List Mv} {L:List Ld} (n:w.ownsRow lo 42 9 vn N.length (zI_ N)) (m:w.ownsRow lo 80 9 vm M.length (zo_ M)) (l:w.ownsRow lo 34 2 vl L.length (yN_ L)) (cn:zr_ PN BN w lo mid N) (cm:zr_ PM BM w mid hi M) (bn:∀b,vn.ownBlock=some b→b<hi) (bm:∀b,vm.ownBlock=some b→b<hi) (bl:∀b,vl.ownBlock=some b→b<hi):OwnC w lo hi vn vm vl N M L:=
 ⟨n,m,l,cn.hi cm.ends,cm.lo cn.ends,fun i j h1 h2 b q1 q2=>by have:=((cn.2.1 i h1).2 b q1).2;have:=((cm.2.1 j h2).2 b q2).1;omega,bn,bm,bl⟩
end Go.Proofs.YtapfhhmimkkhnaaGreat
namespace Go.Proofs.YtapfhhmimkkhnaaGreat
open Go.RowKit Go.Maps Go.Lib
set_option linter.unusedVariables false
set_option maxRecDepth 100000
set_option maxHeartbeats 8000000
theorem pl_ (n:Nat) (w:World) (h1:1≤n) (hn:n≤100000):
  Calls Tryz.prog 186 #[(),n] w fun e w'=>∃u,e= .returned u∧w'.ownsRow w.heap.size 44 2 u 0 (zF_ [])∧Below w.heap.size w w':=by
 obtain⟨i0,hi,hz0,hzs,hzb⟩:=info_parts Tryz.info44;have hold:(Builtin.firstCells i0.size 0 (.slice none 0 0)).run Tryz.prog w.drew= .ok ([]:List Value).toArray w.drew:=by
  simp [Builtin.firstCells]
 obtain⟨C,hC⟩:∃C,C=grownCap w n 0 44:=⟨_,rfl⟩;obtain⟨ROW,hROW⟩:∃ROW:Array Value,ROW=([]:List Value).toArray++Builtin.zeroCells (Value.agg #[(0:Int),.string ⟨#[]⟩]).cells n++Builtin.zeroCells (Value.agg #[(0:Int),.string ⟨#[]⟩]).cells (C-n):=⟨_,rfl⟩;have hrz:∀ty,(Builtin.append_ #[39,3] ty #[(),n]).run Tryz.prog w= .ok (.slice (some ⟨w.heap.size,0,none⟩) n C) (w.drew.alloc (.cells ROW 44)):=fun ty=>by
  have h:=Lib.run_append_grow_zeros w 39 3 ty 44 i0 _ .i64 .i64 Tryz.underlying39 Tryz.underlying3 hi hz0 none 0 0 [] hold n (by omega) (by rw [hzs];omega) (by omega) (by omega) (by rw [hzb];omega) (by rw [hzb];exact growslice_fits (by omega) (by omega));rw [Nat.zero_add,←hC] at h;rw [hROW];exact h
 have hC63:C≤maxLen:=by rw [hC];exact grownCap_le_maxLen w n 0 44 (by unfold maxLen;omega)
 have hCn:n≤C:=by rw [hC];exact grownCap_ge w _ _ _
 have hRs:ROW.size=C*2:=by
  rw [hROW];simp [Builtin.zeroCells,Value.cells];omega
 have HO:Hid ((w.drew.alloc (.cells ROW 44)).ownsRow w.heap.size 44 2 (.slice (some ⟨w.heap.size,0,none⟩) 0 C) 0 (zF_ [])):=World.ownsRow_made (e:=44) (size:=2) w.drew ROW C (Nat.le_refl _) hC63 hRs;have HB:Hid (Below w.heap.size w (w.drew.alloc (.cells ROW 44))):=(Below.refl _ _).drew.trans (zb_ w.drew _);have hn0:¬((n:Int)<0):=by omega
 have hn1:(0:Int)<(n:Int):=by omega
 clear hold hROW hC hRs hi hz0 hzs hzb;go_enter Tryz.func186,Tryz.ntmps186;go_wp2_with (at_builtin;refine Lib.wpList_append_run _ rfl _ _ _ _ rfl _ _ rfl rfl _ _ (hrz _) ?_);go_ret;exact⟨_,rfl,HO.out,HB.out⟩
def ccN (n1 n2 k:Nat):Nat:=if k=0 then 0 else if k=1 then n1 else n1+n2
def ccL (l1 l2:List En) (k:Nat):List En:=if k=0 then [] else if k=1 then l1 else l1++l2
theorem uI_ (b:Nat) (a1 a2:Option Addr) (c1 c2:Nat) (l1 l2:List En) (w:World) (X:Box w b [.slice a1 l1.length c1,.slice a2 l2.length c2]) (h1:ER w (.slice a1 l1.length c1) l1) (h2:ER w (.slice a2 l2.length c2) l2) (hn:1≤l1.length+l2.length) (hm:l1.length+l2.length≤100000):
  Calls Tryz.prog 184 #[.slice (some ⟨b,0,none⟩) 2 2] w fun e w'=>∃u,e= .returned u∧w'.ownsRow w.heap.size 44 2 u (l1.length+l2.length) (zF_ (l1++l2))∧Below w.heap.size w w':=by
 have hbl:=X.1;have x0:=X.2.1 0 _ rfl;have x1:=X.2.1 1 _ rfl;go_enter Tryz.func184,Tryz.ntmps184;go_wp2
 go_loopw [3,11] (fun s i wr=>∃k:Nat,k≤2∧i= .int .i64 k∧s= .int .i64 (ccN l1.length l2.length k:Nat)∧wr=w) (fun _ i _=>2-(RowKit.intOf i).toNat)
 case atStart=>exact⟨0,by omega,rfl,rfl,rfl⟩
 case round=>
  obtain⟨k,hk,rfl,rfl,hwr⟩:=hrel;rw [hwr];clear hwr;obtain rfl | rfl | rfl:k=0∨k=1∨k=2:=by omega
  ·rw [show ccN l1.length l2.length 0=0 from rfl];have hs0:¬((l1.length:Int)<0):=by omega
   have hs1:l1.length≤9223372036854775807:=by omega
   clear X h1 h2;go_wp2;go_roundw
   case rel=>exact⟨1,by omega,by go_num,by simp [ccN],by trivial⟩
   case measure=>simp [RowKit.intOf]
  ·rw [show ccN l1.length l2.length 1=l1.length from rfl];have hs0:¬((l1.length:Int)+(l2.length:Int)<0):=by omega
   have hs1:IntKind.i64.wrap ((l1.length:Int)+(l2.length:Int))=(l1.length:Int)+(l2.length:Int):=by rw [IntKind.wrap_i64];omega
   clear X h1 h2;go_wp2;go_roundw
   case rel=>exact⟨2,by omega,by go_num,by simp [ccN],by trivial⟩
   case measure=>simp [RowKit.intOf]
  ·rw [show ccN l1.length l2.length 2=l1.length+l2.length from rfl];have K:=pl_ (l1.length+l2.length) w hn hm;go_wp2_with fail;refine K.mono ?_;rintro e w1 ⟨u,rfl,o1,hb⟩;clear K;have E1:=fun W (hB:Below w.heap.size w W)=>h1.below hB;have E2:=fun W (hB:Below w.heap.size w W)=>h2.below hB;have Xb:=fun W (hB:Below w.heap.size w W)=>X.below hB;obtain⟨ua,uc,rfl⟩:=ze_ o1;clear x0 x1 h1 h2;go_wp2
   go_loopw [6,27] (fun v i wr=>∃k:Nat,k≤2∧i= .int .i64 k∧wr.ownsRow w.heap.size 44 2 v (ccL l1 l2 k).length (zF_ (ccL l1 l2 k))∧Below w.heap.size w wr) (fun _ i _=>2-(RowKit.intOf i).toNat)
   case atStart=>exact⟨0,by omega,rfl,o1,hb⟩
   case round=>
    obtain⟨k,hk,rfl,ho,hB⟩:=hrel;clear o1 hb;obtain⟨ya,yc,rfl⟩:=ze_ ho;have X2:=Xb _ hB;have x0:=X2.2.1 0 _ rfl;have x1:=X2.2.1 1 _ rfl;have hbl2:=X2.1;clear X2 Xb;have hz:=hB.size;have gy:=zg_ ho;obtain rfl | rfl | rfl:k=0∨k=1∨k=2:=by omega
    ·have hE:=E1 _ hB;clear E1 E2 X;go_wp2_with (at_builtin;refine zE_ _ rfl _ _ rfl rfl w.heap.size _ _ _ rfl ho _ l1 rfl hE (by simp [ccL];omega) hz ?_;intro v' w' hown hgr;refine zs_.go ?_);have hB2:=hB.grown hgr hz (fun j hj=>gy j hj);obtain⟨za,zc,rfl⟩:=ze_ hown;unfold zs_;clear ho gy hgr hE;go_wp2;go_roundw
     case rel=>exact⟨1,by omega,by go_num,by simpa [ccL] using hown,hB2⟩
     case measure=>simp [RowKit.intOf]
    ·have hE:=E2 _ hB;clear E1 E2 X;go_wp2_with (at_builtin;refine zE_ _ rfl _ _ rfl rfl w.heap.size _ _ _ rfl ho _ l2 rfl hE (by simp [ccL];omega) hz ?_;intro v' w' hown hgr;refine zs_.go ?_);have hB2:=hB.grown hgr hz (fun j hj=>gy j hj);obtain⟨za,zc,rfl⟩:=ze_ hown;unfold zs_;clear ho gy hgr hE;go_wp2;go_roundw
     case rel=>exact⟨2,by omega,by go_num,by simpa [ccL] using hown,hB2⟩
     case measure=>simp [RowKit.intOf]
    ·clear E1 E2 X;go_wp2;go_ret;exact⟨_,rfl,by simpa [ccL] using ho,hB⟩
end Go.Proofs.YtapfhhmimkkhnaaGreat
namespace Go.Proofs.YtapfhhmimkkhnaaGreat
open Go.RowKit Go.Maps
set_option linter.unusedVariables false
set_option maxRecDepth 100000
set_option maxHeartbeats 2000000
theorem Chg.nextC {S S':Nat→Prop} {w a b:World} (h:Chg S w a) (h':Chg S' a b) (hs:∀k,S' k→S k∨w.heap.size≤k):Chg S w b:=
 ⟨h'.os.trans h.os,h'.tape.trans h.tape,h'.output.trans h.output,Nat.le_trans h.size h'.size,fun k hk hn=>(h'.block k (Nat.lt_of_lt_of_le hk h.size) (fun e=>(hs k e).elim hn (fun q=>by omega))).trans (h.block k hk hn)⟩
def yi_ (w:World) (size:Nat) (v:Value) (n:Nat) (xs:List Value):Prop:=
 xs.length=n*size∧∃a cap,v= .slice a n cap∧((a=none∧n=0)∨∃b off,a=some ⟨b,off,none⟩∧b<w.heap.size∧∀j u,xs[j]? =some u→w.cell? ⟨b,off+j,none⟩=some u)
theorem yi_.below {w w':World} {size n:Nat} {v:Value} {xs:List Value} (h:yi_ w size v n xs) (hb:Below w.heap.size w w'):yi_ w' size v n xs:=by
 obtain⟨h1,a,cap,h2,h3⟩:=h;refine⟨h1,a,cap,h2,?_⟩;rcases h3 with h3 | ⟨b,off,e,hb2,hc⟩
 ·exact .inl h3
 ·exact .inr ⟨b,off,e,Nat.lt_of_lt_of_le hb2 hb.size,fun j u hj=>(hb.cell (p:=⟨b,off+j,none⟩) hb2).trans (hc j u hj)⟩
theorem yi_.own {w:World} {base:Nat} {e:TypeId} {size n:Nat} {v:Value} {xs:List Value} (h:w.ownsRow base e size v n xs):yi_ w size v n xs:=by
 have h':=h;rcases h.2 with⟨rfl,h0⟩ | ⟨g,cap,cur,rfl,hbg,hh,hcap,hm,hsz,htk⟩
 ·exact⟨h.1,none,0,by rw [h0],.inl ⟨rfl,h0⟩⟩
 ·refine⟨h.1,_,cap,rfl,.inr ⟨g,0,rfl,(Array.getElem?_eq_some_iff.1 hh).1,fun j u hj=> ?_⟩⟩;rw [Nat.zero_add,h'.cellAt j (by have:=(List.getElem?_eq_some_iff.1 hj).1;have:=h.1;omega)];exact hj
theorem yb_ {w:World} {base:Nat} {e:TypeId} {size n:Nat} {a:Option Addr} {cap:Nat} {xs:List Value} (h:w.ownsRow base e size (.slice a n cap) n xs) (k:Nat) (hk:k≤n):w.ownsRow base e size (.slice a k cap) k (xs.take (k*size)):=by
 obtain⟨h1,h2⟩:=h;have hks:k*size≤n*size:=Nat.mul_le_mul_right _ hk;refine⟨by rw [List.length_take];omega,?_⟩;rcases h2 with⟨h2,h0⟩ | ⟨g,cap',cur,hv,hbg,hh,hcap,hm,hsz,htk⟩
 ·simp only [Value.slice.injEq] at h2;obtain⟨rfl,_,rfl⟩:=h2;exact .inl ⟨by rw [show k=0 from by omega],by omega⟩
 ·simp only [Value.slice.injEq] at hv;obtain⟨rfl,_,rfl⟩:=hv;exact .inr ⟨g,cap,cur,rfl,hbg,hh,by omega,hm,hsz,by rw [←htk,List.take_take,Nat.min_eq_left hks]⟩
theorem yc_ (l:List Mv) (k:Nat):(zo_ l).take (k*9)=zo_ (l.take k):=by
 induction l generalizing k with
 | nil=>simp [zo_]
 | cons x r ih=>
  cases k with
  | zero=>simp [zo_]
  | succ k=>rw [show (k+1)*9=k*9+1+1+1+1+1+1+1+1+1 from by omega];simp only [zo_,List.take_succ_cons,ih]
theorem uG_ (l:List Mv) (k:Nat):(zo_ l).drop (k*9)=zo_ (l.drop k):=by
 induction l generalizing k with
 | nil=>simp [zo_]
 | cons x r ih=>
  cases k with
  | zero=>simp [zo_]
  | succ k=>rw [show (k+1)*9=k*9+1+1+1+1+1+1+1+1+1 from by omega];simp only [zo_,List.drop_succ_cons,ih]
theorem tS_ (l:List Nv):∀u∈zI_ l,u.oneCell'=true:=by
 induction l with
 | nil=>intro u hu;simp [zI_] at hu
 | cons x r ih=>
  intro u hu;simp only [zI_,List.mem_cons] at hu;rcases hu with rfl | rfl | rfl | rfl | rfl | rfl | rfl | rfl | rfl | hu
  all_goals first | rfl | exact ih u hu
theorem zQ_ (l:List Mv):∀u∈zo_ l,u.oneCell'=true:=by
 induction l with
 | nil=>intro u hu;simp [zo_] at hu
 | cons x r ih=>
  intro u hu;simp only [zo_,List.mem_cons] at hu;rcases hu with rfl | rfl | rfl | rfl | rfl | rfl | rfl | rfl | rfl | hu
  all_goals first | rfl | exact ih u hu
theorem vq_ (l:List Ld):∀u∈yN_ l,u.oneCell'=true:=by
 induction l with
 | nil=>intro u hu;simp [yN_] at hu
 | cons x r ih=>
  intro u hu;simp only [yN_,List.mem_cons] at hu;rcases hu with rfl | rfl | hu
  all_goals first | rfl | exact ih u hu
theorem app_42 (w:World) (base:Nat) (v:Value) (n:Nat) (zs:List Value) (hown:w.ownsRow base 42 9 v n zs) (xv:Value) (m:Nat) (xs:List Value) (hI:yi_ w 9 xv m xs) (h1:∀u∈xs,u.oneCell'=true) (hn:n+m≤2000000) (hbase:base≤w.heap.size):
  ∃v' w',(Builtin.append_ #[26,26] 26 #[v,xv]).run Tryz.prog w= .ok v' w'∧w'.ownsRow base 42 9 v' (n+m) (zs++xs)∧w.grownBy w' v.ownBlock∧(v'.ownBlock=v.ownBlock∨v'.ownBlock=some w.heap.size):=by
 obtain⟨i0,hi,hz0,hzs,hzb⟩:=info_parts Tryz.info42;obtain⟨hl,a,cap,rfl,h⟩:=hI;rcases h with⟨rfl,rfl⟩ | ⟨b,off,rfl,hb,hc⟩
 ·obtain rfl:xs= []:=List.length_eq_zero_iff.1 (by omega);refine⟨v,w,?_,by simpa using hown,⟨rfl,rfl,rfl,Nat.le_refl _,fun _ _ _=>rfl⟩,.inl rfl⟩;rcases hown.2 with⟨rfl,h0⟩ | ⟨g,cp,cur,rfl,hbase,hb,h1,h2,h3,h4⟩
  ·simp [Builtin.append_,run_underlying Tryz.underlying26,Builtin.lenOf,Builtin.firstCells,Tryz.sizeOf42]
  ·simp [Builtin.append_,run_underlying Tryz.underlying26,Builtin.lenOf,Builtin.firstCells,Tryz.sizeOf42,h1,storeCells]
 ·obtain⟨v',w',r,o,g,_,q⟩:=run_append_own_at (P:=Tryz.prog) w base 26 26 42 i0 (.agg zN) 9 120 Tryz.underlying26 hi hz0 hzs hzb rfl (by decide) v n zs hown ⟨b,off,none⟩ m cap xs hl (fun j u hj=>by rw [show (⟨b,off,none⟩:Addr).add j=⟨b,off+j,none⟩ from by simp [Addr.add]];exact hc j u hj) h1 (by unfold maxLen;omega) (by omega) hbase;exact⟨v',w',r,o,g,q⟩
theorem qA_ (w:World) {o:Oper} {a:Act} {K:Act→World→Prop} {Q:Exit→Act→World→Prop} (s x:Operand)
  (ho:o.op= .call ⟨.builtin .append,#[s,x],#[26,26]⟩) (hty:o.type=26)
  (base:Nat) (v:Value) (n:Nat) (zs:List Value) (hs:a.eval s=v) (hown:w.ownsRow base 42 9 v n zs)
  (xv:Value) (m:Nat) (xs:List Value) (hx:a.eval x=xv) (hI:yi_ w 9 xv m xs) (h1:∀u∈xs,u.oneCell'=true) (hn:n+m≤2000000) (hbase:base≤w.heap.size)
  (h:∀v' w',w'.ownsRow base 42 9 v' (n+m) (zs++xs)→w.grownBy w' v.ownBlock→(v'.ownBlock=v.ownBlock∨v'.ownBlock=some w.heap.size)→K (a.put o.dst v') w'):o.wp Tryz.prog a w K Q:=by
 obtain⟨v',w',r,q1,q2,q3⟩:=app_42 w base v n zs hown xv m xs hI h1 hn hbase;unfold Oper.wp;simp [execOp,ho,resolve,invoke,builtin,hs,hx,hty,r,Result.andThen];exact h v' w' q1 q2 q3
theorem xW_ (w:World) {ops:Array Oper} {rest:List Oper} {o:Oper} {a:Act} {Q:Exit→Act→World→Prop} (hgd:o.guard=none) (s x:Operand)
  (ho:o.op= .call ⟨.builtin .append,#[s,x],#[26,26]⟩) (hty:o.type=26)
  (base:Nat) (v:Value) (n:Nat) (zs:List Value) (hs:a.eval s=v) (hown:w.ownsRow base 42 9 v n zs)
  (xv:Value) (m:Nat) (xs:List Value) (hx:a.eval x=xv) (hI:yi_ w 9 xv m xs) (h1:∀u∈xs,u.oneCell'=true) (hn:n+m≤2000000) (hbase:base≤w.heap.size)
  (h:∀v' w',w'.ownsRow base 42 9 v' (n+m) (zs++xs)→w.grownBy w' v.ownBlock→(v'.ownBlock=v.ownBlock∨v'.ownBlock=some w.heap.size)→wpList Tryz.prog ops Q rest (a.put o.dst v') w'):wpList Tryz.prog ops Q (o::rest) a w:=
 wpList_plain hgd fun _ hK=>qA_ w s x ho hty base v n zs hs hown xv m xs hx hI h1 hn hbase fun v' w' h2 h3 h4=>hK _ _ (h v' w' h2 h3 h4)
theorem app_80 (w:World) (base:Nat) (v:Value) (n:Nat) (zs:List Value) (hown:w.ownsRow base 80 9 v n zs) (xv:Value) (m:Nat) (xs:List Value) (hI:yi_ w 9 xv m xs) (h1:∀u∈xs,u.oneCell'=true) (hn:n+m≤2000000) (hbase:base≤w.heap.size):
  ∃v' w',(Builtin.append_ #[27,27] 27 #[v,xv]).run Tryz.prog w= .ok v' w'∧w'.ownsRow base 80 9 v' (n+m) (zs++xs)∧w.grownBy w' v.ownBlock∧(v'.ownBlock=v.ownBlock∨v'.ownBlock=some w.heap.size):=by
 obtain⟨i0,hi,hz0,hzs,hzb⟩:=info_parts Tryz.info80;obtain⟨hl,a,cap,rfl,h⟩:=hI;rcases h with⟨rfl,rfl⟩ | ⟨b,off,rfl,hb,hc⟩
 ·obtain rfl:xs= []:=List.length_eq_zero_iff.1 (by omega);refine⟨v,w,?_,by simpa using hown,⟨rfl,rfl,rfl,Nat.le_refl _,fun _ _ _=>rfl⟩,.inl rfl⟩;rcases hown.2 with⟨rfl,h0⟩ | ⟨g,cp,cur,rfl,hbase,hb,h1,h2,h3,h4⟩
  ·simp [Builtin.append_,run_underlying Tryz.underlying27,Builtin.lenOf,Builtin.firstCells,Tryz.sizeOf80]
  ·simp [Builtin.append_,run_underlying Tryz.underlying27,Builtin.lenOf,Builtin.firstCells,Tryz.sizeOf80,h1,storeCells]
 ·obtain⟨v',w',r,o,g,_,q⟩:=run_append_own_at (P:=Tryz.prog) w base 27 27 80 i0 (.agg zM) 9 88 Tryz.underlying27 hi hz0 hzs hzb rfl (by decide) v n zs hown ⟨b,off,none⟩ m cap xs hl (fun j u hj=>by rw [show (⟨b,off,none⟩:Addr).add j=⟨b,off+j,none⟩ from by simp [Addr.add]];exact hc j u hj) h1 (by unfold maxLen;omega) (by omega) hbase;exact⟨v',w',r,o,g,q⟩
theorem ye_ (w:World) {o:Oper} {a:Act} {K:Act→World→Prop} {Q:Exit→Act→World→Prop} (s x:Operand)
  (ho:o.op= .call ⟨.builtin .append,#[s,x],#[27,27]⟩) (hty:o.type=27)
  (base:Nat) (v:Value) (n:Nat) (zs:List Value) (hs:a.eval s=v) (hown:w.ownsRow base 80 9 v n zs)
  (xv:Value) (m:Nat) (xs:List Value) (hx:a.eval x=xv) (hI:yi_ w 9 xv m xs) (h1:∀u∈xs,u.oneCell'=true) (hn:n+m≤2000000) (hbase:base≤w.heap.size)
  (h:∀v' w',w'.ownsRow base 80 9 v' (n+m) (zs++xs)→w.grownBy w' v.ownBlock→(v'.ownBlock=v.ownBlock∨v'.ownBlock=some w.heap.size)→K (a.put o.dst v') w'):o.wp Tryz.prog a w K Q:=by
 obtain⟨v',w',r,q1,q2,q3⟩:=app_80 w base v n zs hown xv m xs hI h1 hn hbase;unfold Oper.wp;simp [execOp,ho,resolve,invoke,builtin,hs,hx,hty,r,Result.andThen];exact h v' w' q1 q2 q3
theorem xq_ (w:World) {ops:Array Oper} {rest:List Oper} {o:Oper} {a:Act} {Q:Exit→Act→World→Prop} (hgd:o.guard=none) (s x:Operand)
  (ho:o.op= .call ⟨.builtin .append,#[s,x],#[27,27]⟩) (hty:o.type=27)
  (base:Nat) (v:Value) (n:Nat) (zs:List Value) (hs:a.eval s=v) (hown:w.ownsRow base 80 9 v n zs)
  (xv:Value) (m:Nat) (xs:List Value) (hx:a.eval x=xv) (hI:yi_ w 9 xv m xs) (h1:∀u∈xs,u.oneCell'=true) (hn:n+m≤2000000) (hbase:base≤w.heap.size)
  (h:∀v' w',w'.ownsRow base 80 9 v' (n+m) (zs++xs)→w.grownBy w' v.ownBlock→(v'.ownBlock=v.ownBlock∨v'.ownBlock=some w.heap.size)→wpList Tryz.prog ops Q rest (a.put o.dst v') w'):wpList Tryz.prog ops Q (o::rest) a w:=
 wpList_plain hgd fun _ hK=>ye_ w s x ho hty base v n zs hs hown xv m xs hx hI h1 hn hbase fun v' w' h2 h3 h4=>hK _ _ (h v' w' h2 h3 h4)
theorem app_34 (w:World) (base:Nat) (v:Value) (n:Nat) (zs:List Value) (hown:w.ownsRow base 34 2 v n zs) (xv:Value) (m:Nat) (xs:List Value) (hI:yi_ w 2 xv m xs) (h1:∀u∈xs,u.oneCell'=true) (hn:n+m≤2000000) (hbase:base≤w.heap.size):
  ∃v' w',(Builtin.append_ #[28,28] 28 #[v,xv]).run Tryz.prog w= .ok v' w'∧w'.ownsRow base 34 2 v' (n+m) (zs++xs)∧w.grownBy w' v.ownBlock∧(v'.ownBlock=v.ownBlock∨v'.ownBlock=some w.heap.size):=by
 obtain⟨i0,hi,hz0,hzs,hzb⟩:=info_parts Tryz.info34;obtain⟨hl,a,cap,rfl,h⟩:=hI;rcases h with⟨rfl,rfl⟩ | ⟨b,off,rfl,hb,hc⟩
 ·obtain rfl:xs= []:=List.length_eq_zero_iff.1 (by omega);refine⟨v,w,?_,by simpa using hown,⟨rfl,rfl,rfl,Nat.le_refl _,fun _ _ _=>rfl⟩,.inl rfl⟩;rcases hown.2 with⟨rfl,h0⟩ | ⟨g,cp,cur,rfl,hbase,hb,h1,h2,h3,h4⟩
  ·simp [Builtin.append_,run_underlying Tryz.underlying28,Builtin.lenOf,Builtin.firstCells,Tryz.sizeOf34]
  ·simp [Builtin.append_,run_underlying Tryz.underlying28,Builtin.lenOf,Builtin.firstCells,Tryz.sizeOf34,h1,storeCells]
 ·obtain⟨v',w',r,o,g,_,q⟩:=run_append_own_at (P:=Tryz.prog) w base 28 28 34 i0 (.agg #[(0:Int),(0:Int)]) 2 16 Tryz.underlying28 hi hz0 hzs hzb rfl (by decide) v n zs hown ⟨b,off,none⟩ m cap xs hl (fun j u hj=>by rw [show (⟨b,off,none⟩:Addr).add j=⟨b,off+j,none⟩ from by simp [Addr.add]];exact hc j u hj) h1 (by unfold maxLen;omega) (by omega) hbase;exact⟨v',w',r,o,g,q⟩
theorem qB_ (w:World) {o:Oper} {a:Act} {K:Act→World→Prop} {Q:Exit→Act→World→Prop} (s x:Operand)
  (ho:o.op= .call ⟨.builtin .append,#[s,x],#[28,28]⟩) (hty:o.type=28)
  (base:Nat) (v:Value) (n:Nat) (zs:List Value) (hs:a.eval s=v) (hown:w.ownsRow base 34 2 v n zs)
  (xv:Value) (m:Nat) (xs:List Value) (hx:a.eval x=xv) (hI:yi_ w 2 xv m xs) (h1:∀u∈xs,u.oneCell'=true) (hn:n+m≤2000000) (hbase:base≤w.heap.size)
  (h:∀v' w',w'.ownsRow base 34 2 v' (n+m) (zs++xs)→w.grownBy w' v.ownBlock→(v'.ownBlock=v.ownBlock∨v'.ownBlock=some w.heap.size)→K (a.put o.dst v') w'):o.wp Tryz.prog a w K Q:=by
 obtain⟨v',w',r,q1,q2,q3⟩:=app_34 w base v n zs hown xv m xs hI h1 hn hbase;unfold Oper.wp;simp [execOp,ho,resolve,invoke,builtin,hs,hx,hty,r,Result.andThen];exact h v' w' q1 q2 q3
theorem yP_ (w:World) {ops:Array Oper} {rest:List Oper} {o:Oper} {a:Act} {Q:Exit→Act→World→Prop} (hgd:o.guard=none) (s x:Operand)
  (ho:o.op= .call ⟨.builtin .append,#[s,x],#[28,28]⟩) (hty:o.type=28)
  (base:Nat) (v:Value) (n:Nat) (zs:List Value) (hs:a.eval s=v) (hown:w.ownsRow base 34 2 v n zs)
  (xv:Value) (m:Nat) (xs:List Value) (hx:a.eval x=xv) (hI:yi_ w 2 xv m xs) (h1:∀u∈xs,u.oneCell'=true) (hn:n+m≤2000000) (hbase:base≤w.heap.size)
  (h:∀v' w',w'.ownsRow base 34 2 v' (n+m) (zs++xs)→w.grownBy w' v.ownBlock→(v'.ownBlock=v.ownBlock∨v'.ownBlock=some w.heap.size)→wpList Tryz.prog ops Q rest (a.put o.dst v') w'):wpList Tryz.prog ops Q (o::rest) a w:=
 wpList_plain hgd fun _ hK=>qB_ w s x ho hty base v n zs hs hown xv m xs hx hI h1 hn hbase fun v' w' h2 h3 h4=>hK _ _ (h v' w' h2 h3 h4)
theorem eqn_26_0 (w:World):(binOp .eql 26 (.slice none 0 0) (.slice none 0 0)).run Tryz.prog w= .ok (.bool true) w:=by kernel_rfl
theorem eqn_26_1 (ad:Addr) (n c:Nat) (w:World):(binOp .eql 26 (.slice (some ad) n c) (.slice none 0 0)).run Tryz.prog w= .ok (.bool false) w:=by kernel_rfl
theorem qq_ (v:Value) (b0:Nat) (l:List Nv) (w:World) (hv:w.ownsRow b0 42 9 v l.length (zI_ l)) (hn:l.length≤1048576):
  Calls Tryz.prog 85 #[v] w fun e w'=>∃u,e= .returned u∧w'.ownsRow w.heap.size 42 9 u l.length (zI_ l)∧Below w.heap.size w w':=by
 have hI:=yi_.own hv;rcases hv.2 with⟨rfl,h0⟩ | ⟨g,cap,cur,rfl,_⟩
 ·obtain rfl:l= []:=List.length_eq_zero_iff.1 h0;clear hv hI;have EN:=eqn_26_0;go_enter Tryz.func85,Tryz.ntmps85;go_wp2;go_ret;exact⟨_,rfl,World.ownsRow_nil _ _ _ _,Below.refl _ _⟩
 ·have o0:(w.alloc (.cells #[] 42)).ownsRow w.heap.size 42 9 (.slice (some ⟨w.heap.size,0,none⟩) 0 0) 0 []:=World.ownsRow_lit w #[] 0 (Nat.le_refl _) (by simp [maxLen]) (by simp);have hB:=zb_ w (.cells #[] 42);have h1:=hI.below hB;clear hv hI;have EN:=eqn_26_1 ⟨g,0,none⟩ l.length cap;go_enter Tryz.func85,Tryz.ntmps85;go_wp2_with (at_builtin;refine xW_ _ rfl _ _ rfl rfl w.heap.size _ 0 [] rfl o0 _ l.length (zI_ l) rfl h1 (tS_ l) (by omega) (by simp) ?_;intro v' w' hown hgr hat;refine zs_.go ?_);have hB2:=yg_ hB hgr (by simp) (Nat.le_refl _);simp only [Nat.zero_add,List.nil_append] at hown;obtain⟨ua,uc,rfl⟩:=ze_ hown;clear hgr o0 h1 hB hat;unfold zs_;go_wp2;go_ret;exact⟨_,rfl,hown,hB2⟩
theorem eqn_27_0 (w:World):(binOp .eql 27 (.slice none 0 0) (.slice none 0 0)).run Tryz.prog w= .ok (.bool true) w:=by kernel_rfl
theorem eqn_27_1 (ad:Addr) (n c:Nat) (w:World):(binOp .eql 27 (.slice (some ad) n c) (.slice none 0 0)).run Tryz.prog w= .ok (.bool false) w:=by kernel_rfl
theorem qr_ (v:Value) (b0:Nat) (l:List Mv) (w:World) (hv:w.ownsRow b0 80 9 v l.length (zo_ l)) (hn:l.length≤1048576):
  Calls Tryz.prog 87 #[v] w fun e w'=>∃u,e= .returned u∧w'.ownsRow w.heap.size 80 9 u l.length (zo_ l)∧Below w.heap.size w w':=by
 have hI:=yi_.own hv;rcases hv.2 with⟨rfl,h0⟩ | ⟨g,cap,cur,rfl,_⟩
 ·obtain rfl:l= []:=List.length_eq_zero_iff.1 h0;clear hv hI;have EN:=eqn_27_0;go_enter Tryz.func87,Tryz.ntmps87;go_wp2;go_ret;exact⟨_,rfl,World.ownsRow_nil _ _ _ _,Below.refl _ _⟩
 ·have o0:(w.alloc (.cells #[] 80)).ownsRow w.heap.size 80 9 (.slice (some ⟨w.heap.size,0,none⟩) 0 0) 0 []:=World.ownsRow_lit w #[] 0 (Nat.le_refl _) (by simp [maxLen]) (by simp);have hB:=zb_ w (.cells #[] 80);have h1:=hI.below hB;clear hv hI;have EN:=eqn_27_1 ⟨g,0,none⟩ l.length cap;go_enter Tryz.func87,Tryz.ntmps87;go_wp2_with (at_builtin;refine xq_ _ rfl _ _ rfl rfl w.heap.size _ 0 [] rfl o0 _ l.length (zo_ l) rfl h1 (zQ_ l) (by omega) (by simp) ?_;intro v' w' hown hgr hat;refine zs_.go ?_);have hB2:=yg_ hB hgr (by simp) (Nat.le_refl _);simp only [Nat.zero_add,List.nil_append] at hown;obtain⟨ua,uc,rfl⟩:=ze_ hown;clear hgr o0 h1 hB hat;unfold zs_;go_wp2;go_ret;exact⟨_,rfl,hown,hB2⟩
theorem eqn_28_0 (w:World):(binOp .eql 28 (.slice none 0 0) (.slice none 0 0)).run Tryz.prog w= .ok (.bool true) w:=by kernel_rfl
theorem eqn_28_1 (ad:Addr) (n c:Nat) (w:World):(binOp .eql 28 (.slice (some ad) n c) (.slice none 0 0)).run Tryz.prog w= .ok (.bool false) w:=by kernel_rfl
theorem qs_ (v:Value) (b0:Nat) (l:List Ld) (w:World) (hv:w.ownsRow b0 34 2 v l.length (yN_ l)) (hn:l.length≤1048576):
  Calls Tryz.prog 89 #[v] w fun e w'=>∃u,e= .returned u∧w'.ownsRow w.heap.size 34 2 u l.length (yN_ l)∧Below w.heap.size w w':=by
 have hI:=yi_.own hv;rcases hv.2 with⟨rfl,h0⟩ | ⟨g,cap,cur,rfl,_⟩
 ·obtain rfl:l= []:=List.length_eq_zero_iff.1 h0;clear hv hI;have EN:=eqn_28_0;go_enter Tryz.func89,Tryz.ntmps89;go_wp2;go_ret;exact⟨_,rfl,World.ownsRow_nil _ _ _ _,Below.refl _ _⟩
 ·have o0:(w.alloc (.cells #[] 34)).ownsRow w.heap.size 34 2 (.slice (some ⟨w.heap.size,0,none⟩) 0 0) 0 []:=World.ownsRow_lit w #[] 0 (Nat.le_refl _) (by simp [maxLen]) (by simp);have hB:=zb_ w (.cells #[] 34);have h1:=hI.below hB;clear hv hI;have EN:=eqn_28_1 ⟨g,0,none⟩ l.length cap;go_enter Tryz.func89,Tryz.ntmps89;go_wp2_with (at_builtin;refine yP_ _ rfl _ _ rfl rfl w.heap.size _ 0 [] rfl o0 _ l.length (yN_ l) rfl h1 (vq_ l) (by omega) (by simp) ?_;intro v' w' hown hgr hat;refine zs_.go ?_);have hB2:=yg_ hB hgr (by simp) (Nat.le_refl _);simp only [Nat.zero_add,List.nil_append] at hown;obtain⟨ua,uc,rfl⟩:=ze_ hown;clear hgr o0 h1 hB hat;unfold zs_;go_wp2;go_ret;exact⟨_,rfl,hown,hB2⟩
end Go.Proofs.YtapfhhmimkkhnaaGreat
