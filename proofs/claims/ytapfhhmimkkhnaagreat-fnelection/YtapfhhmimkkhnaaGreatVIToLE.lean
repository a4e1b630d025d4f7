/-
  slices.BinarySearch and slices.Insert at a node's votes.
  A node comes to lead: leading, l11Lead, of any number of peers.
-/
import Derived.Test.YtapfhhmimkkhnaaGreatM2bToH0
import Derived.Test.YtapfhhmimkkhnaaGreatQ3ToQD
import Derived.Shelf.Spec.SlicesInsertGrow
import Derived.Shelf.Slices.SearchI
import Derived.Shelf.Lay
import Derived.Deep.Cut
namespace Go.Proofs.YtapfhhmimkkhnaaGreat
open Go.RowKit Go.Maps Go.Lib
set_option linter.unusedVariables false
set_option maxRecDepth 100000
shelf_lay Lays2.n25 Nm2 25 at Tryz as Tryz.laysBs
shelf_lay Lays2.n21 Nm2 21 at Tryz as Tryz.laysIns
def setL (xs:List Value) (o:Nat):List Value→List Value
 | []=>xs
 | v::r=>setL (xs.set o v) (o+1) r
theorem setL_eq:∀(vs xs:List Value) (o:Nat),o+vs.length≤xs.length→setL xs o vs=xs.take o++vs++xs.drop (o+vs.length)
 | [],xs,o,h=>by simp [setL]
 | v::r,xs,o,h=>by
  simp only [List.length_cons] at h;rw [setL,setL_eq r (xs.set o v) (o+1) (by simp;omega),list_seg_step xs o v r (by omega)]
  rfl
theorem yj_ {base:Nat} {e:TypeId} {size g cap n:Nat} :∀(vs:List Value) (o:Nat) (w:World) (xs:List Value),w.ownsRow base e size (.slice (some ⟨g,0,none⟩) n cap) n xs→(w.setCells g o vs).ownsRow base e size (.slice (some ⟨g,0,none⟩) n cap) n (setL xs o vs)
 | [],_,_,_,h=>h
 | v::r,o,w,xs,h=>yj_ r (o+1) _ _ (h.stored o v).1
theorem yr_ {S:Nat→Prop} {a:World} (b:Nat) (hb:S b):∀(vs:List Value) (o:Nat) (w:World),Chg S a w→Chg S a (w.setCells b o vs)
 | [],_,_,h=>h
 | v::r,o,w,h=>yr_ b hb r (o+1) _ (h.setCell (p:=⟨b,o,none⟩) hb v)
theorem owns_more1 {w:World} {base:Nat} {g cap n:Nat} {xs:List Value} (h:w.ownsRow base 3 1 (.slice (some ⟨g,0,none⟩) n cap) n xs) (hc:n+1≤cap):∃ex,ex.length=1∧w.ownsRow base 3 1 (.slice (some ⟨g,0,none⟩) (n+1) cap) (n+1) (xs++ex):=by
 obtain⟨hl,h⟩:=h;rcases h with⟨h,_⟩ | ⟨g',cap',cur,hv,hbg,hh,h1,h2,h3,h4⟩
 ·simp at h
 ·simp only [Value.slice.injEq,Option.some.injEq,Addr.mk.injEq,and_true,true_and] at hv;obtain⟨rfl,rfl⟩:=hv;have e:cur.toList.take ((n+1)*1)=xs++(cur.toList.drop (n*1)).take 1:=by
   rw [show (n+1)*1=n*1+1 from by omega,List.take_add,h4]
  have hl4:((cur.toList.drop (n*1)).take 1).length=1:=by simp;omega
  exact⟨(cur.toList.drop (n*1)).take 1,hl4,by rw [List.length_append,hl,hl4];omega,.inr ⟨g,cap,cur,rfl,hbg,hh,hc,h2,h3,e⟩⟩
theorem yf_ {w:World} {base:Nat} {e:TypeId} {size g cap n:Nat} {xs:List Value} (h:w.ownsRow base e size (.slice (some ⟨g,0,none⟩) n cap) n xs) (j:Nat) (hj:j<n*size):(w.cell? ⟨g,j,none⟩).isSome=true:=by
 rw [h.cellAt j hj,List.getElem?_eq_getElem (by rw [h.1];exact hj)];rfl
theorem owns_shape? {w:World} {base:Nat} {e:TypeId} {size g cap n:Nat} {xs:List Value} (h:w.ownsRow base e size (.slice (some ⟨g,0,none⟩) n cap) n xs):w.shape? g=some (e,cap*size):=by
 rcases h.2 with⟨h,_⟩ | ⟨g',cap',cur,hv,hbg,hh,h1,h2,h3,h4⟩
 ·simp at h
 ·simp only [Value.slice.injEq,Option.some.injEq,Addr.mk.injEq,and_true,true_and] at hv;obtain⟨rfl,rfl⟩:=hv;simp [World.shape?,hh,h3]
theorem owns_capM {w:World} {base:Nat} {e:TypeId} {size g cap n:Nat} {xs:List Value} (h:w.ownsRow base e size (.slice (some ⟨g,0,none⟩) n cap) n xs):n≤cap∧cap≤maxLen:=by
 rcases h.2 with⟨h,_⟩ | ⟨g',cap',cur,hv,hbg,hh,h1,h2,h3,h4⟩
 ·simp at h
 ·simp only [Value.slice.injEq,Option.some.injEq,Addr.mk.injEq,and_true,true_and] at hv;obtain⟨rfl,rfl⟩:=hv;exact⟨h1,h2⟩
theorem bsV_any (va:Option Addr) (vc:Nat) (vs:List Int) (x:Int) (w:World) (h:IL w (.slice va vs.length vc) vs) (hne:vs≠ []) (hs:vs.Pairwise (· ≤ ·)) (hn:vs.length≤1000):
  Calls Tryz.prog 168 #[.slice va vs.length vc,x] w fun e w'=>e= .returned (.tuple #[.int .i64 (vs.countP (· <x):Nat),.bool (vs.contains x)])∧∃q,w'=w.drewN q:=by
 obtain⟨a,cap,he,hc⟩:=h;simp only [Value.slice.injEq,true_and] at he;obtain⟨rfl,rfl⟩:=he;obtain⟨b,off,rfl,hb,hcell⟩:=hc hne;have K:=Any.slices_BinarySearch_int Tryz.laysBs b off vs.length vc vs x w (Nat.le_refl _) (by omega) (fun j hj=>by rw [hcell j hj];simp [hj]) (by rw [List.take_length];exact hs);rw [List.take_length] at K;exact K
theorem insert_room1 (g cap base vb b0 i:Nat) (vs:List Int) (x:Int) (w:World) (ho:w.ownsRow base 3 1 (.slice (some ⟨g,0,none⟩) vs.length cap) vs.length (vs.map (.int .i64))) (hv:w.ownsRow b0 3 1 (.slice (some ⟨vb,0,none⟩) 1 1) 1 [x]) (hne:vb≠g) (hi:i<vs.length) (hroom:vs.length+1≤cap) (hn:vs.length≤1000):
  Calls Tryz.prog 169 #[.slice (some ⟨g,0,none⟩) vs.length cap,i,.slice (some ⟨vb,0,none⟩) 1 1] w fun e w'=>∃u,e= .returned u∧w'.ownsRow base 3 1 u (vs.length+1) ((vs.take i++x::vs.drop i).map (.int .i64))∧u.ownBlock=some g∧Chg (· =g) w w':=by
 obtain⟨hcn,hcm⟩:=owns_capM ho;obtain⟨ex,hex,hO⟩:=owns_more1 ho hroom;have hvl:=(owns_lt hv).2;have K:=Any2.slices_Insert_int_shift Tryz.laysIns g 0 vs.length cap i vb 0 1 1 (vs.map (.int .i64)) [x] w hi (by omega) hroom (by unfold maxLen at hcm;omega) hne (by simp) rfl
  (fun j v hj=>by rw [Nat.zero_add,ho.cellAt j (by have:=(List.getElem?_eq_some_iff.1 hj).1;simp at this;omega)];exact hj)
  (fun j hj=>by rw [Nat.zero_add];exact yf_ hO j (by omega)) (fun j hj=>ho.frozenAt _)
  (fun j v hj=>by rw [Nat.zero_add,hv.cellAt j (by have:=(List.getElem?_eq_some_iff.1 hj).1;simp at this;omega)];exact hj)
  (fun v hv=>by simp only [List.mem_map] at hv;obtain⟨z,_,rfl⟩:=hv;rfl) (fun v hv=>by simp only [List.mem_singleton] at hv;subst hv;rfl)
  3 3 1 (cap*1) (owns_shape? hv) (owns_shape? ho) (by omega) (hv.frozenAt 0) (hv.frozenAt 1)
 refine K.mono ?_;rintro e w' ⟨rfl,rfl⟩;refine⟨_,rfl,?_,rfl,yr_ (S:=(· =g)) g rfl _ _ _ (yr_ (S:=(· =g)) g rfl _ _ _ (Chg.of_below (Below.refl _ _).drew))⟩;have h1:=yj_ [x] (0+i) _ _ (yj_ ((vs.map (Value.int .i64)).drop i) (0+(i+1)) _ _ hO.drew);have hd:((vs.map (Value.int .i64)).drop i).length=vs.length-i:=by simp
 have hl:(vs.map (Value.int .i64)++ex).length=vs.length+1:=by simp [hex]
 rw [setL_eq _ (vs.map (Value.int .i64)++ex) _ (by rw [hd,hl];omega)] at h1;have e1:((vs.map (Value.int .i64)++ex).drop (0+(i+1)+((vs.map (Value.int .i64)).drop i).length))= []:=List.drop_eq_nil_of_le (by rw [hd,hl];omega);rw [e1,List.append_nil] at h1;have hl2:((vs.map (Value.int .i64)++ex).take (0+(i+1))++(vs.map (Value.int .i64)).drop i).length=vs.length+1:=by
  rw [List.length_append,List.length_take,hl,hd];omega
 rw [setL_eq _ _ _ (by rw [hl2];simp;omega)] at h1;have a1:((vs.map (Value.int .i64)++ex).take (0+(i+1))++(vs.map (Value.int .i64)).drop i).take (0+i)=(vs.take i).map (.int .i64):=by
  rw [List.take_append_of_le_length (by rw [List.length_take,hl];omega),List.take_take,Nat.min_eq_left (by omega),List.take_append_of_le_length (by simp;omega),Nat.zero_add,List.map_take]
 have a2:((vs.map (Value.int .i64)++ex).take (0+(i+1))++(vs.map (Value.int .i64)).drop i).drop (0+i+ [Value.int .i64 x].length)=(vs.drop i).map (.int .i64):=by
  have:0+i+ [Value.int .i64 x].length=((vs.map (Value.int .i64)++ex).take (0+(i+1))).length:=by rw [List.length_take,hl];simp;omega
  rw [this,List.drop_left,List.map_drop]
 rw [a1,a2] at h1;rw [List.map_append,List.map_cons];simpa using h1
theorem insert_grow1 (g cap base vb b0 i:Nat) (vs:List Int) (x:Int) (w:World) (ho:w.ownsRow base 3 1 (.slice (some ⟨g,0,none⟩) vs.length cap) vs.length (vs.map (.int .i64))) (hv:w.ownsRow b0 3 1 (.slice (some ⟨vb,0,none⟩) 1 1) 1 [x]) (hbase:base≤w.heap.size) (hi:i<vs.length) (hroom:cap<vs.length+1) (hn:vs.length≤1000):
  Calls Tryz.prog 169 #[.slice (some ⟨g,0,none⟩) vs.length cap,i,.slice (some ⟨vb,0,none⟩) 1 1] w fun e w'=>∃u,e= .returned u∧w'.ownsRow base 3 1 u (vs.length+1) ((vs.take i++x::vs.drop i).map (.int .i64))∧u.ownBlock=some w.heap.size∧Below w.heap.size w w':=by
 obtain⟨hcn,hcm⟩:=owns_capM ho;have K:=Any2.slices_Insert_int_grow Tryz.laysIns g 0 vs.length cap i vb 0 1 1 (vs.map (.int .i64)) [x] w hi (by omega) hcn hroom (by omega) (by simp) rfl
  (fun j v hj=>by rw [Nat.zero_add,ho.cellAt j (by have:=(List.getElem?_eq_some_iff.1 hj).1;simp at this;omega)];exact hj)
  (fun j v hj=>by rw [Nat.zero_add,hv.cellAt j (by have:=(List.getElem?_eq_some_iff.1 hj).1;simp at this;omega)];exact hj)
  (fun v hv=>by simp only [List.mem_map] at hv;obtain⟨z,_,rfl⟩:=hv;rfl) (fun v hv=>by simp only [List.mem_singleton] at hv;subst hv;rfl)
 refine K.mono ?_;rintro e w' ⟨rfl,rfl⟩;clear K;have hCn:vs.length+1≤grownCap w (vs.length+1) cap 3:=grownCap_ge w _ _ _;have hC63:grownCap w (vs.length+1) cap 3≤maxLen:=grownCap_le_maxLen w (vs.length+1) cap 3 (by unfold maxLen;omega);obtain⟨C,hC⟩:∃C,C=grownCap w (vs.length+1) cap 3:=⟨_,rfl⟩;rw [←hC] at hCn hC63;obtain⟨ROW,hROW⟩:∃ROW:Array Value,ROW=((vs.map (Value.int .i64)).take i).toArray++Builtin.zeroCells (Value.int .i64 0).cells (vs.length+1-i)++Builtin.zeroCells (Value.int .i64 0).cells (C-(vs.length+1)):=⟨_,rfl⟩;have hRs:ROW.size=C*1:=by
  rw [hROW];simp [Builtin.zeroCells,Value.cells];omega
 have hRL:ROW.toList.length=C:=by rw [Array.length_toList,hRs];omega
 have hRt:(ROW.toList.take ((vs.length+1)*1)).take i=(vs.take i).map (.int .i64):=by
  rw [List.take_take,Nat.min_eq_left (by omega),hROW];simp only [Array.toList_append,List.append_assoc];rw [List.take_append_of_le_length (by simp;omega),List.take_of_length_le (by simp;omega),List.map_take]
 have h1:(w.alloc (.cells ROW 3)).ownsRow base 3 1 (.slice (some ⟨w.heap.size,0,none⟩) (vs.length+1) C) (vs.length+1) (ROW.toList.take ((vs.length+1)*1)):=by
  refine⟨by rw [List.length_take,hRL];omega,.inr ⟨w.heap.size,C,ROW,rfl,hbase,heap_alloc_new w _,hCn,hC63,hRs,rfl⟩⟩
 have h2:Chg (fun k=>w.heap.size≤k) w ((w.alloc (.cells ROW 3)).drew):=by
  have:=zb_ w (.cells ROW 3);exact⟨rfl,rfl,rfl,this.size,fun k hk _=>this.block k hk⟩
 have hd:((vs.map (Value.int .i64)).drop i).length=vs.length-i:=by simp
 have h3:=yr_ (S:=fun k=>w.heap.size≤k) w.heap.size (Nat.le_refl _) ((vs.map (Value.int .i64)).drop i) (i+1) _ ((yr_ (S:=fun k=>w.heap.size≤k) w.heap.size (Nat.le_refl _) [Value.int .i64 x] i _ h2).trans (Chg.of_below (Below.refl _ _).drew));have h4:=yj_ ((vs.map (Value.int .i64)).drop i) (i+1) _ _ (yj_ [Value.int .i64 x] i _ _ h1.drew).drew;have hl:(ROW.toList.take ((vs.length+1)*1)).length=vs.length+1:=by rw [List.length_take,hRL];omega
 rw [setL_eq [Value.int .i64 x] (ROW.toList.take ((vs.length+1)*1)) _ (by rw [hl];simp;omega),hRt] at h4;have hl2:((vs.take i).map (Value.int .i64)++ [Value.int .i64 x]++(ROW.toList.take ((vs.length+1)*1)).drop (i+ [Value.int .i64 x].length)).length=vs.length+1:=by
  simp only [List.length_append,List.length_map,List.length_take,List.length_drop,hRL,List.length_singleton];omega
 rw [setL_eq _ _ _ (by rw [hl2,hd];omega)] at h4;have a1:((vs.take i).map (Value.int .i64)++ [Value.int .i64 x]++(ROW.toList.take ((vs.length+1)*1)).drop (i+ [Value.int .i64 x].length)).take (i+1)=(vs.take i).map (.int .i64)++ [Value.int .i64 x]:=by
  have hq:((vs.take i).map (Value.int .i64)++ [Value.int .i64 x]).length=i+1:=by simp;omega
  rw [←hq,List.take_left]
 have a2:((vs.take i).map (Value.int .i64)++ [Value.int .i64 x]++(ROW.toList.take ((vs.length+1)*1)).drop (i+ [Value.int .i64 x].length)).drop (i+1+((vs.map (Value.int .i64)).drop i).length)= []:=List.drop_eq_nil_of_le (by rw [hl2,hd];omega);rw [a1,a2,List.append_nil] at h4;have hX:(vs.take i++x::vs.drop i).map (Value.int .i64)=(vs.take i).map (Value.int .i64)++ [Value.int .i64 x]++(vs.map (Value.int .i64)).drop i:=by simp
 rw [hX];rw [hROW,hC] at h3 h4;exact⟨_,rfl,h4,rfl,h3.below (Nat.le_refl _) (fun k h=>h)⟩
theorem insert_end1 (va:Option Addr) (vc base vb b0:Nat) (vs:List Int) (x:Int) (w:World) (ho:w.ownsRow base 3 1 (.slice va vs.length vc) vs.length (vs.map (.int .i64))) (hv:w.ownsRow b0 3 1 (.slice (some ⟨vb,0,none⟩) 1 1) 1 [x]) (hbase:base≤w.heap.size) (hn:vs.length≤1000):
  Calls Tryz.prog 169 #[.slice va vs.length vc,vs.length,.slice (some ⟨vb,0,none⟩) 1 1] w fun e w'=>∃u,e= .returned u∧w'.ownsRow base 3 1 u (vs.length+1) ((vs++ [x]).map (.int .i64))∧(∀g,u.ownBlock=some g→(Value.slice va vs.length vc).ownBlock=some g∨w.heap.size≤g)∧Chg (fun b=>(Value.slice va vs.length vc).ownBlock=some b) w w':=by
 have V:IL w (.slice (some ⟨vb,0,none⟩) 1 1) [x]:=ym_ hv rfl;obtain⟨i0,hi,hz0,hzs,hzb⟩:=info_parts Tryz.info3;go_enter Tryz.func169,Tryz.ntmps169;go_wp2_with (at_builtin;refine wpList_append_own_at _ rfl _ _ 40 rfl base 3 i0 (.int .i64 0) 1 8 Tryz.underlying40 hi hz0 hzs hzb rfl (by decide) _ vs.length (vs.map (.int .i64)) rfl ho ⟨vb,0,none⟩ 1 1 [x] rfl rfl (fun j u hj=>by rw [show (⟨vb,0,none⟩:Addr).add j=⟨vb,j,none⟩ from by simp [Addr.add];omega,hv.cellAt j (by have:=(List.getElem?_eq_some_iff.1 hj).1;simp at this;omega)];exact hj) (fun u hu=>by simp only [List.mem_singleton] at hu;subst hu;rfl) (by unfold maxLen;omega) (by omega) hbase ?_;intro v' w' hown hgr _ hat;refine zs_.go ?_)
 all_goals
  unfold zs_;obtain⟨ua,uc,rfl⟩:=ze_ hown;have hat2:∀g,(Value.slice ua (vs.length+1) uc).ownBlock=some g→(Value.slice va vs.length vc).ownBlock=some g∨w.heap.size≤g:=by
   intro g hg;rcases hat with e | e
   ·exact .inl (e.symm.trans hg)
   ·rw [e] at hg;injection hg with hg;exact .inr (Nat.le_of_eq hg)
  have hgr2:Chg (fun b=>(Value.slice va vs.length vc).ownBlock=some b) w w':=⟨hgr.os,hgr.tape,hgr.output,hgr.size,fun k hk hs=>hgr.block k hk fun e=>hs e.symm⟩;clear hgr;clear ho hv V hat;have hown2:w'.ownsRow base 3 1 (.slice ua (vs.length+1) uc) (vs.length+1) ((vs++ [x]).map (.int .i64)):=by simpa using hown
  clear hown;go_wp2;go_ret;exact⟨_,rfl,hown2,hat2,hgr2⟩
theorem insV_any (va:Option Addr) (vc base vb b0 i:Nat) (vs:List Int) (x:Int) (w:World) (ho:w.ownsRow base 3 1 (.slice va vs.length vc) vs.length (vs.map (.int .i64))) (hv:w.ownsRow b0 3 1 (.slice (some ⟨vb,0,none⟩) 1 1) 1 [x]) (hne:(Value.slice va vs.length vc).ownBlock≠some vb) (hbase:base≤w.heap.size) (hi:i≤vs.length) (hn:vs.length≤1000):
  Calls Tryz.prog 169 #[.slice va vs.length vc,i,.slice (some ⟨vb,0,none⟩) 1 1] w fun e w'=>∃u,e= .returned u∧w'.ownsRow base 3 1 u (vs.length+1) ((vs.take i++x::vs.drop i).map (.int .i64))∧(∀g,u.ownBlock=some g→(Value.slice va vs.length vc).ownBlock=some g∨w.heap.size≤g)∧Chg (fun b=>(Value.slice va vs.length vc).ownBlock=some b) w w':=by
 rcases Nat.eq_or_lt_of_le hi with rfl | hlt
 ·refine (insert_end1 va vc base vb b0 vs x w ho hv hbase hn).mono ?_;rintro e w' ⟨u,rfl,h1,h2,h3⟩;refine⟨u,rfl,?_,h2,h3⟩;rw [List.take_length,List.drop_length];exact h1
 ·rcases ho.2 with⟨_,h0⟩ | ⟨g,cap,cur,hv',_⟩
  ·omega
  ·simp only [Value.slice.injEq,true_and] at hv';obtain⟨rfl,rfl⟩:=hv';by_cases hr:vs.length+1≤vc
   ·refine (insert_room1 g vc base vb b0 i vs x w ho hv (fun e=>hne (by rw [e];rfl)) hlt hr hn).mono ?_;rintro e w' ⟨u,rfl,h1,hg,h2⟩;exact⟨u,rfl,h1,fun k hk=> .inl (by rw [hg] at hk;exact hk),h2.mono fun k h=>by rw [h];rfl⟩
   ·refine (insert_grow1 g vc base vb b0 i vs x w ho hv hbase hlt (by omega) hn).mono ?_;rintro e w' ⟨u,rfl,h1,hg,h2⟩;exact⟨u,rfl,h1,fun k hk=> .inr (by rw [hg] at hk;injection hk with hk;omega),Chg.of_below h2⟩
end Go.Proofs.YtapfhhmimkkhnaaGreat
namespace Go.Proofs.YtapfhhmimkkhnaaGreat
open Go.RowKit Go.Maps
set_option linter.unusedVariables false
set_option maxRecDepth 100000
set_option maxHeartbeats 16000000
theorem leadingG_any (k p:Nat) (hk:k<p) (hp:p≤7) (te vo co ro:Int) (la:Option Addr) (lc:Nat) (va:Option Addr) (vn vc:Nat) (ma:Option Addr) (mn mc:Nat) (log:List En) (w:World):
  Calls Tryz.prog 170 #[.agg #[k,p,te,vo,.slice la log.length lc,co,ro,.slice va vn vc,.slice ma mn mc]] w fun e w'=>∃u,e= .returned (.agg #[k,p,te,vo,.slice la log.length lc,co,(2:Int),(),u])∧w'.ownsRow w.heap.size 3 1 u p ((mtZ p k log.length).map (.int .i64))∧Below w.heap.size w w':=by
 obtain⟨i0,hi,hz0,hz1,hz2⟩:=info_parts Tryz.info3;obtain⟨W0,hW0,hB,X,Y,_⟩:=al2 w [k,p,te,vo,.slice la log.length lc,co,(2:Int),(),.slice ma mn mc] 42 zN 42;have hzq:W0.heap.size=w.heap.size+1+1:=by rw [hW0];simp
 have hM0:(madeCells (Value.int .i64 0).cells (p*1)).toList=(List.replicate p (0:Int)).map (.int .i64):=by
  apply List.ext_getElem
  ·simp [madeCells]
  ·intro i h1 h2;simp [madeCells,Value.cells,Nat.mod_one]
 go_enter Tryz.func170,Tryz.ntmps170;go_wp2_with (at_make;refine zs_.go ?_);rw [←hW0];unfold zs_;refine wpList_make_full _ rfl _ _ 40 rfl (w.heap.size+1+1) 3 i0 _ 1 Tryz.underlying40 hi hz0 hz1 .i64 .i64 _ _ p rfl rfl rfl rfl (by rw [hz2];omega) (by unfold maxLen;omega) (by omega) ?_;intro w1 o1 hgr;rw [hM0,hzq] at o1;have hb:Below W0.heap.size W0 w1:=(Below.refl _ _).grown hgr (Nat.le_refl _) (by simp);clear hW0 hgr hi hz0 hz1 hz2 hM0;replace hB:=za_ hB hb;replace X:=X.below hb;replace Y:=Y.below hb;have hzl:=(owns_lt o1).2;clear hb;obtain⟨xl,x0,x1,x2,x3,x4,x5,x6,x7,x8⟩:=X.e9;obtain⟨f0,f1,f2,f3,f4,f5,f6,f7,f8⟩:=X.f9;rw [hzq];clear hzq;go_upto_region 4 with fail;obtain⟨W1,hW1⟩:∃W,W=w1.setCell ⟨w.heap.size,8,none⟩ (.slice (some ⟨w.heap.size+1+1,0,none⟩) p p):=⟨_,rfl⟩;have hC:Chg (fun b=>b=w.heap.size) w1 W1:=by rw [hW1];exact Chg.setCell (S:=fun b=>b=w.heap.size) (Chg.refl _ _) rfl _
 replace X:Box W1 w.heap.size [k,p,te,vo,.slice la log.length lc,co,(2:Int),(),.slice (some ⟨w.heap.size+1+1,0,none⟩) p p]:=by rw [hW1];exact X.set 8 _ (by simp)
 replace Y:=hC.box Y (by omega);replace hB:=hB.trans (hC.below (B:=w.heap.size) hB.size (fun k hk=>by omega));replace o1:=hC.owns o1 (fun b hb hh=>by simp [Value.ownBlock] at hb;have hh:b=w.heap.size:=hh;omega);have hz1:=hC.size;rw [←hW1];clear hW1 hC xl x0 x1 x2 x3 x4 x5 x6 x7 x8 f0 f1 f2 f3 f4 f5 f6 f7 f8;obtain⟨xl,x0,x1,x2,x3,x4,x5,x6,x7,x8⟩:=X.e9;obtain⟨⟨u0,d0⟩,e0⟩:(∃v,W1.cell? ⟨w.heap.size+1+1,k,none⟩=some v)∧W1.frozen? ⟨w.heap.size+1+1,k,none⟩=false:=⟨by have:=yf_ o1 k (by omega);exact Option.isSome_iff_exists.1 this,o1.frozenAt k⟩;have o2:=(o1.stored k (.int .i64 log.length)).1;have eM:((List.replicate p (0:Int)).map (Value.int .i64)).set k (.int .i64 log.length)=(mtZ p k log.length).map (.int .i64):=by
  simp [mtZ,List.map_set]
 rw [eM] at o2;clear eM o1;obtain⟨W2,hW2⟩:∃W,W=W1.setCell ⟨w.heap.size+1+1,k,none⟩ (.int .i64 log.length):=⟨_,rfl⟩;rw [←hW2] at o2;have hC:Chg (fun b=>b=w.heap.size+1+1) W1 W2:=by rw [hW2];exact Chg.setCell (S:=fun b=>b=w.heap.size+1+1) (Chg.refl _ _) rfl _
 replace X:=hC.box X (by omega);replace Y:=hC.box Y (by omega);replace hB:=hB.trans (hC.below (B:=w.heap.size) hB.size (fun k hk=>by omega));have hz2:=hC.size;have hkb:(k:Int)<(p:Int):=by omega
 have hk0:(0:Int)≤(k:Int):=by omega
 go_upto_region 5 with fail;rw [←hW2];clear hW2 hC d0 e0 xl x0 x1 x2 x3 x4 x5 x6 x7 x8;have hC:=zk_ W2 (w.heap.size+1) k p te vo (.slice la log.length lc) co (.int .i64 2) () (.slice (some ⟨w.heap.size+1+1,0,none⟩) p p);have Z:=zl_ Y k p te vo (.slice la log.length lc) co (.int .i64 2) () (.slice (some ⟨w.heap.size+1+1,0,none⟩) p p);have hBE:=hB.trans (hC.below (B:=w.heap.size) hB.size (fun k hk=>by omega));have oE:=zf_ (hC.owns o2 (fun b hb hh=>by simp [Value.ownBlock] at hb;have hh:b=w.heap.size+1:=hh;omega)) (show w.heap.size≤w.heap.size+1+1 from by omega);obtain⟨xl,x0,x1,x2,x3,x4,x5,x6,x7,x8⟩:=X.e9;obtain⟨yl,y0,y1,y2,y3,y4,y5,y6,y7,y8⟩:=Y.e9;obtain⟨f0,f1,f2,f3,f4,f5,f6,f7,f8⟩:=Y.f9;clear hC X Y hB o2;obtain⟨tl,t0,t1,t2,t3,t4,t5,t6,t7,t8⟩:=Z.e9;clear Z;unfold put9 at*;go_wp2;exact bodyPost_ret (v:= .agg #[k,p,te,vo,.slice la log.length lc,co,(2:Int),(),.slice (some ⟨w.heap.size+1+1,0,none⟩) p p]) (by simp [results,Tryz.results170,go_sem,t0,t1,t2,t3,t4,t5,t6,t7,t8]) rfl ⟨_,rfl,oE,hBE⟩
theorem l11LeadG_any (k p:Nat) (hk:k<p) (hp:p≤7) (te vo co ro:Int) (la:Option Addr) (lc:Nat) (va:Option Addr) (vn vc:Nat) (ma:Option Addr) (mn mc:Nat) (log:List En) (w:World) (hl:ER w (.slice la log.length lc) log) (nl:log.length≤1048576) (hc0:0≤co):
  Calls Tryz.prog 137 #[.agg #[k,p,te,vo,.slice la log.length lc,co,ro,.slice va vn vc,.slice ma mn mc]] w fun e w'=>∃u,e= .returned (.agg #[k,p,te,vo,.slice la log.length lc,(zu_ te p co log (mtZ p k log.length) log.length:Int),(2:Int),(),u])∧w'.ownsRow w.heap.size 3 1 u p ((mtZ p k log.length).map (.int .i64))∧Below w.heap.size w w':=by
 obtain⟨i0,hi,hz0,hz1,hz2⟩:=info_parts Tryz.info3;obtain⟨W0,hW0,hB,X,Y,_⟩:=al2 w [k,p,te,vo,.slice la log.length lc,co,(2:Int),(),.slice ma mn mc] 42 zN 42;have hzq:W0.heap.size=w.heap.size+1+1:=by rw [hW0];simp
 have hM0:(madeCells (Value.int .i64 0).cells (p*1)).toList=(List.replicate p (0:Int)).map (.int .i64):=by
  apply List.ext_getElem
  ·simp [madeCells]
  ·intro i h1 h2;simp [madeCells,Value.cells,Nat.mod_one]
 go_enter Tryz.func137,Tryz.ntmps137;go_wp2_with (at_make;refine zs_.go ?_);rw [←hW0];unfold zs_;refine wpList_make_full _ rfl _ _ 40 rfl (w.heap.size+1+1) 3 i0 _ 1 Tryz.underlying40 hi hz0 hz1 .i64 .i64 _ _ p rfl rfl rfl rfl (by rw [hz2];omega) (by unfold maxLen;omega) (by omega) ?_;intro w1 o1 hgr;rw [hM0,hzq] at o1;have hb:Below W0.heap.size W0 w1:=(Below.refl _ _).grown hgr (Nat.le_refl _) (by simp);clear hW0 hgr hi hz0 hz1 hz2 hM0;replace hB:=za_ hB hb;replace X:=X.below hb;replace Y:=Y.below hb;have hzl:=(owns_lt o1).2;clear hb;obtain⟨xl,x0,x1,x2,x3,x4,x5,x6,x7,x8⟩:=X.e9;obtain⟨f0,f1,f2,f3,f4,f5,f6,f7,f8⟩:=X.f9;rw [hzq];clear hzq;go_upto_region 4 with fail;obtain⟨W1,hW1⟩:∃W,W=w1.setCell ⟨w.heap.size,8,none⟩ (.slice (some ⟨w.heap.size+1+1,0,none⟩) p p):=⟨_,rfl⟩;have hC:Chg (fun b=>b=w.heap.size) w1 W1:=by rw [hW1];exact Chg.setCell (S:=fun b=>b=w.heap.size) (Chg.refl _ _) rfl _
 replace X:Box W1 w.heap.size [k,p,te,vo,.slice la log.length lc,co,(2:Int),(),.slice (some ⟨w.heap.size+1+1,0,none⟩) p p]:=by rw [hW1];exact X.set 8 _ (by simp)
 replace Y:=hC.box Y (by omega);replace hB:=hB.trans (hC.below (B:=w.heap.size) hB.size (fun k hk=>by omega));replace o1:=hC.owns o1 (fun b hb hh=>by simp [Value.ownBlock] at hb;have hh:b=w.heap.size:=hh;omega);have hz1:=hC.size;rw [←hW1];clear hW1 hC xl x0 x1 x2 x3 x4 x5 x6 x7 x8 f0 f1 f2 f3 f4 f5 f6 f7 f8;obtain⟨xl,x0,x1,x2,x3,x4,x5,x6,x7,x8⟩:=X.e9;obtain⟨⟨u0,d0⟩,e0⟩:(∃v,W1.cell? ⟨w.heap.size+1+1,k,none⟩=some v)∧W1.frozen? ⟨w.heap.size+1+1,k,none⟩=false:=⟨by have:=yf_ o1 k (by omega);exact Option.isSome_iff_exists.1 this,o1.frozenAt k⟩;have o2:=(o1.stored k (.int .i64 log.length)).1;have eM:((List.replicate p (0:Int)).map (Value.int .i64)).set k (.int .i64 log.length)=(mtZ p k log.length).map (.int .i64):=by
  simp [mtZ,List.map_set]
 rw [eM] at o2;clear eM o1;obtain⟨W2,hW2⟩:∃W,W=W1.setCell ⟨w.heap.size+1+1,k,none⟩ (.int .i64 log.length):=⟨_,rfl⟩;rw [←hW2] at o2;have hC:Chg (fun b=>b=w.heap.size+1+1) W1 W2:=by rw [hW2];exact Chg.setCell (S:=fun b=>b=w.heap.size+1+1) (Chg.refl _ _) rfl _
 replace X:=hC.box X (by omega);replace Y:=hC.box Y (by omega);replace hB:=hB.trans (hC.below (B:=w.heap.size) hB.size (fun k hk=>by omega));have hz2:=hC.size;have hkb:(k:Int)<(p:Int):=by omega
 have hk0:(0:Int)≤(k:Int):=by omega
 go_upto_region 5 with fail;rw [←hW2];clear hW2 hC d0 e0 xl x0 x1 x2 x3 x4 x5 x6 x7 x8;have K:=l11Commit_any k p te vo co (.slice la log.length lc) (.slice none 0 0) (.slice (some ⟨w.heap.size+1+1,0,none⟩) p p) log [] (mtZ p k log.length) W2 (hl.below hB) (ym_ (World.ownsRow_nil _ W2.heap.size 3 1) rfl) (ym_ o2 (by simp [mtZ])) nl (by simp [mtZ];omega) hc0;obtain⟨cx,HCX⟩:∃cx,Hid (zu_ te p co log (mtZ p k log.length) log.length=cx):=⟨zu_ te p co log (mtZ p k log.length) log.length,rfl⟩;rw [HCX.out] at K;obtain⟨xl,x0,x1,x2,x3,x4,x5,x6,x7,x8⟩:=X.e9;go_wp2_with fail;refine K.mono ?_;rintro e w3 ⟨rfl,hb⟩;clear K xl x0 x1 x2 x3 x4 x5 x6 x7 x8 X;replace hB:=za_ hB hb;replace Y:=Y.below hb;replace o2:=zd_ o2 hb;clear hb;have hC:=zk_ w3 (w.heap.size+1) k p te vo (.slice la log.length lc) cx (.int .i64 2) () (.slice (some ⟨w.heap.size+1+1,0,none⟩) p p);have Z:=zl_ Y k p te vo (.slice la log.length lc) cx (.int .i64 2) () (.slice (some ⟨w.heap.size+1+1,0,none⟩) p p);have hBE:=hB.trans (hC.below (B:=w.heap.size) hB.size (fun k hk=>by omega));have oE:=zf_ (hC.owns o2 (fun b hb hh=>by simp [Value.ownBlock] at hb;have hh:b=w.heap.size+1:=hh;omega)) (show w.heap.size≤w.heap.size+1+1 from by omega);obtain⟨yl,y0,y1,y2,y3,y4,y5,y6,y7,y8⟩:=Y.e9;obtain⟨f0,f1,f2,f3,f4,f5,f6,f7,f8⟩:=Y.f9;clear hC Y hB o2;obtain⟨tl,t0,t1,t2,t3,t4,t5,t6,t7,t8⟩:=Z.e9;clear Z;unfold put9 at*;go_wp2;exact bodyPost_ret (v:= .agg #[k,p,te,vo,.slice la log.length lc,cx,(2:Int),(),.slice (some ⟨w.heap.size+1+1,0,none⟩) p p]) (by simp [results,Tryz.results137,go_sem,t0,t1,t2,t3,t4,t5,t6,t7,t8]) rfl ⟨_,by rw [HCX.out],oE,hBE⟩
end Go.Proofs.YtapfhhmimkkhnaaGreat
