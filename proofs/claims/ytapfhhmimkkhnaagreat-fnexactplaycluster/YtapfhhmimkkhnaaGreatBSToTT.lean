/-
  Bools in a row: eqBoolS, markBoolS, heldBoolS.
  Both PlayClusters in one form; bounds.
  The walk of FnExactPlayCluster.
  From the reading of an argument to the list of entries that the contracts speak of.
  From the reading of an argument to the list of steps that the contracts speak of.
-/
import Derived.Test.YtapfhhmimkkhnaaGreatRF2ToK9
import Derived.Test.YtapfhhmimkkhnaaGreatR3ToP2
import Derived.Test.YtapfhhmimkkhnaaGreatCLToCN
import Derived.OwnWalk
import Derived.Deep.QuietTactic
import Derived.Test.YtapfhhmimkkhnaaGreatSTToPLI
import Derived.Test.YtapfhhmimkkhnaaGreatSPL
import Derived.Test.YtapfhhmimkkhnaaGreatCMDToTS
import Derived.Test.YtapfhhmimkkhnaaGreatN1ToA3
import Derived.Test.YtapfhhmimkkhnaaGreatAToRF1
import Derived.Deep.SlicePairs
import Derived.Lib.SmallJoins
namespace Go.Proofs.YtapfhhmimkkhnaaGreat
open Go.RowKit
set_option linter.unusedVariables false
set_option maxRecDepth 100000
set_option maxHeartbeats 2000000
def BR (w:World) (v:Value) (D:List Bool):Prop:=
 ∃a cap,v= .slice a D.length cap∧(D≠ []→∃b,a=some ⟨b,0,none⟩∧b<w.heap.size∧∀i (h:i<D.length),w.cell? ⟨b,i,none⟩=some (.bool D[i]))
theorem BR.below {w w':World} {v:Value} {D:List Bool} (h:BR w v D) (hb:Below w.heap.size w w'):BR w' v D:=by
 obtain⟨a,cap,hv,hc⟩:=h;refine⟨a,cap,hv,fun hl=> ?_⟩;obtain⟨b,ha,hbl,hcell⟩:=hc hl;exact⟨b,ha,Nat.lt_of_lt_of_le hbl hb.size,fun i hi=>(hb.cell (p:=⟨b,i,none⟩) hbl).trans (hcell i hi)⟩
theorem BR_of_owns {w:World} {base:Nat} {e:TypeId} {v:Value} {D:List Bool} {n:Nat} (h:w.ownsRow base e 1 v n (D.map .bool)) (hn:n=D.length):BR w v D:=by
 subst hn;have h':=h;rcases h.2 with⟨rfl,h0⟩ | ⟨g,cap,cur,rfl,hbg,hh,_⟩
 ·exact⟨none,0,by rw [h0],fun hne=>absurd (List.length_eq_zero_iff.1 h0) hne⟩
 ·exact⟨_,cap,rfl,fun _=>⟨g,rfl,(Array.getElem?_eq_some_iff.1 hh).1,fun i hi=>by rw [h'.cellAt i (by omega)];simp [hi]⟩⟩
theorem run_neq_bS (w:World) (b:Bool):(binOp .neq 4 (.bool b) (.bool b)).run Tryz.prog w= .ok (.bool false) w:=by
 cases b <;>kernel_rfl
theorem eqBoolS_same (u v:Value) (D:List Bool) (w:World) (hu:BR w u D) (hv:BR w v D) (hn:D.length≤1048576):
  Calls Tryz.prog 23 #[u,v] w fun e w'=>e= .returned (.bool true)∧Below w.heap.size w w':=by
 obtain⟨a,cap,rfl,hc⟩:=hu;obtain⟨a',cap',rfl,hc'⟩:=hv;have NB:=run_neq_bS;go_enter Tryz.func23,Tryz.ntmps23;go_wp2
 go_loopw [5] (fun i wr=>∃k:Nat,k≤D.length∧i= .int .i64 k∧Below w.heap.size w wr) (fun i _=>D.length-(intOf i).toNat)
 case atStart=>exact⟨0,Nat.zero_le _,rfl,Below.refl _ _⟩
 case round=>
  obtain⟨k,hk,rfl,hb⟩:=hrel;by_cases hlt:k<D.length
  ·obtain⟨b,rfl,hbl,hcell⟩:=hc (by intro e;simp [e] at hlt);obtain⟨b',rfl,hbl',hcell'⟩:=hc' (by intro e;simp [e] at hlt);have hc0:wr.cell? ⟨b,k,none⟩=some (.bool D[k]):=(hb.cell (p:=⟨b,k,none⟩) hbl).trans (hcell k hlt);have hd0:wr.cell? ⟨b',k,none⟩=some (.bool D[k]):=(hb.cell (p:=⟨b',k,none⟩) hbl').trans (hcell' k hlt);clear hcell hcell' hc hc';generalize D[k]=c at*;go_wp2_with fail
   go_quiet (fail)
   go_wp2;go_roundw
   case rel=>exact⟨k+1,by omega,by go_num,below_drewN hb _⟩
   case measure=>simp [intOf];omega
  ·clear hc hc';go_wp2;go_ret;exact⟨rfl,hb⟩
def mkBn (k:Int) (n:Nat):List Bool:=(List.range n).map fun i:Nat=>((k+(i:Int)) % 3==0)
theorem zP_ (k:Int) (n:Nat):(mkBn k n).length=n:=by simp [mkBn]
theorem mkBn_at (k:Int) (n i:Nat) (h:i<n):(mkBn k n)[i]'(by rw [zP_];exact h)=((k+(i:Int)) % 3==0):=by simp [mkBn]
def mkBJ (l:List Bool) (k:Int) (j:Nat):List Bool:=(mkBn k l.length).take j++l.drop j
theorem mkBJ_length (l:List Bool) (k:Int) (j:Nat) (h:j≤l.length):(mkBJ l k j).length=l.length:=by
 unfold mkBJ;rw [List.length_append,List.length_take,List.length_drop,zP_];omega
theorem mkBJ_set (l:List Bool) (k:Int) (j:Nat) (h:j<l.length):(mkBJ l k j).set j ((k+(j:Int)) % 3==0)=mkBJ l k (j+1):=by
 unfold mkBJ;have h1:((mkBn k l.length).take j).length=j:=by rw [List.length_take,zP_];omega
 have h2:(mkBn k l.length)[j]'(by rw [zP_];exact h)=((k+(j:Int)) % 3==0):=by simp [mkBn]
 rw [List.set_append_right _ _ (by omega),h1,Nat.sub_self,List.take_succ_eq_append_getElem (by rw [zP_];exact h),h2,List.drop_eq_getElem_cons h,sB_,List.append_assoc]
 rfl
theorem mkBJ_all (l:List Bool) (k:Int):mkBJ l k l.length=mkBn k l.length:=by
 unfold mkBJ;rw [List.take_of_length_le (by rw [zP_];omega),List.drop_eq_nil_of_le (by omega),List.append_nil]
theorem mkBJ_zero (l:List Bool) (k:Int):mkBJ l k 0=l:=by simp [mkBJ]
theorem markBoolS_at (g cap base:Nat) (l:List Bool) (k:Int) (w:World) (ho:w.ownsRow base 4 1 (.slice (some ⟨g,0,none⟩) l.length cap) l.length (l.map .bool)) (hn:l.length≤1048576) (hk0:0≤k) (hk1:k≤1073741824):
  Calls Tryz.prog 27 #[.slice (some ⟨g,0,none⟩) l.length cap,k] w fun e w'=>e= .returned (.int .i64 (k+l.length))∧w'.ownsRow base 4 1 (.slice (some ⟨g,0,none⟩) l.length cap) l.length ((mkBn k l.length).map .bool)∧Chg (· =g) w w':=by
 go_enter Tryz.func27,Tryz.ntmps27;go_wp2
 go_loopw [1,5] (fun t i wr=>∃j:Nat,j≤l.length∧i= .int .i64 j∧t= .int .i64 (k+j)∧wr.ownsRow base 4 1 (.slice (some ⟨g,0,none⟩) l.length cap) l.length ((mkBJ l k j).map .bool)∧Chg (· =g) w wr) (fun _ i _=>l.length-(intOf i).toNat)
 case atStart=>exact⟨0,Nat.zero_le _,rfl,by simp,by rw [mkBJ_zero];exact ho,Chg.refl _ _⟩
 case round=>
  clear ho;obtain⟨j,hj,rfl,rfl,hown,hch⟩:=hrel;by_cases hlt:j<l.length
  ·have HL:Hid ((mkBJ l k j).length=l.length):=mkBJ_length l k j hj;have HN:Hid ((mkBJ l k j).set j ((k+(j:Int)) % 3==0)=mkBJ l k (j+1)):=mkBJ_set l k j hlt;have hgl:=(zU_ hown).2;have d0:wr.cell? ⟨g,j,none⟩=some (.bool ((mkBJ l k j)[j]'(by rw [HL.out];exact hlt))):=by
    rw [hown.cellAt j (by omega),List.getElem?_map,List.getElem?_eq_getElem (by rw [HL.out];exact hlt)];rfl
   have f0:=hown.frozenAt j;have HB:Hid ((wr.setCell ⟨g,j,none⟩ (.bool ((k+(j:Int)) % 3==0))).ownsRow base 4 1 (.slice (some ⟨g,0,none⟩) l.length cap) l.length ((mkBJ l k (j+1)).map .bool)):=by
    rw [←HN.out];have:=(hown.stored j (.bool ((k+(j:Int)) % 3==0))).1;rw [List.map_set];exact this
   generalize (mkBJ l k j)[j]'(by rw [HL.out];exact hlt)=old at d0;clear hown HN HL;go_wp2;go_roundw
   case rel=>exact⟨j+1,by omega,by go_num,by go_num,HB.out,hch.setCell rfl _⟩
   case measure=>simp [intOf];omega
  ·obtain rfl:j=l.length:=by omega
   rw [mkBJ_all l] at hown;go_wp2;go_ret;exact⟨rfl,hown,hch⟩
theorem markBoolS_nil (k:Int) (w:World):Calls Tryz.prog 27 #[(),k] w fun e w'=>e= .returned (.int .i64 k)∧w'=w:=by
 go_enter Tryz.func27,Tryz.ntmps27;go_wp2
 go_loopw [1,5] (fun t i wr=>i= .int .i64 0∧t= .int .i64 k∧wr=w) (fun _ _ _=>0)
 case atStart=>exact⟨rfl,rfl,rfl⟩
 case round=>
  obtain⟨rfl,rfl,rfl⟩:=hrel;go_wp2;go_ret;exact⟨rfl,rfl⟩
theorem markBoolS_own (v:Value) (base:Nat) (l:List Bool) (k:Int) (w:World) (ho:w.ownsRow base 4 1 v l.length (l.map .bool)) (hn:l.length≤1048576) (hk0:0≤k) (hk1:k≤1073741824):
  Calls Tryz.prog 27 #[v,k] w fun e w'=>e= .returned (.int .i64 (k+l.length))∧w'.ownsRow base 4 1 v l.length ((mkBn k l.length).map .bool)∧Chg (fun b=>v.ownBlock=some b) w w':=by
 rcases ho.2 with⟨rfl,h0⟩ | ⟨g,cap,cur,rfl,_⟩
 ·rw [h0];refine (markBoolS_nil k w).mono ?_;rintro e w' ⟨rfl,rfl⟩;exact⟨by simp,World.ownsRow_nil _ _ _ _,Chg.refl _ _⟩
 ·refine (markBoolS_at g cap base l k w ho hn hk0 hk1).mono ?_;rintro e w' ⟨rfl,h1,h2⟩;exact⟨rfl,h1,h2.mono fun b hb=>by rw [hb];rfl⟩
theorem heldBoolS_at (v:Value) (n:Nat) (k:Int) (w:World) (hv:BR w v (mkBn k n)) (hn:n≤1048576) (hk0:0≤k) (hk1:k≤1073741824):
  Calls Tryz.prog 29 #[v,k] w fun e w'=>e= .returned (.int .i64 (k+n))∧w'=w:=by
 obtain⟨a,cap,rfl,hc⟩:=hv;rw [zP_];have NB:=run_neq_bS;go_enter Tryz.func29,Tryz.ntmps29;go_wp2
 go_loopw [1,5] (fun t i wr=>∃j:Nat,j≤n∧i= .int .i64 j∧t= .int .i64 (k+j)∧wr=w) (fun _ i _=>n-(intOf i).toNat)
 case atStart=>exact⟨0,Nat.zero_le _,rfl,by simp,rfl⟩
 case round=>
  obtain⟨j,hj,rfl,rfl,rfl⟩:=hrel;by_cases hlt:j<n
  ·obtain⟨b,rfl,hbl,hcell⟩:=hc (by intro e;have:=congrArg List.length e;rw [zP_] at this;simp at this;omega);have d0:=hcell j (by rw [zP_];exact hlt);rw [mkBn_at k n j hlt] at d0;have NB2:=fun W=>run_neq_bS W ((k+(j:Int)) % 3==0);clear hcell hc NB;go_wp2;go_roundw
   case rel=>exact⟨j+1,by omega,by go_num,by go_num,trivial⟩
   case measure=>simp [intOf];omega
  ·obtain rfl:j=n:=by omega
   clear hc;go_wp2;go_ret;exact⟨rfl,rfl⟩
end Go.Proofs.YtapfhhmimkkhnaaGreat
namespace Go.Proofs.YtapfhhmimkkhnaaGreat
open Go.RowKit Go.Maps
set_option linter.unusedVariables false
set_option maxRecDepth 100000
def plR (ok:Bool) (p:Nat) (l:List Sp):PS:=if ok=true then plGo (zJ_ p) l else⟨[],[],[]⟩
def plD (ok:Bool) (p:Nat) (l:List Sp):List Bool:=if ok=true then plDid (zJ_ p) l else []
def PlB (w':World) (b0:Nat) (ok:Bool) (R:PS) (D:List Bool) (e:Ending):Prop:=
 ∃un um ul N M dv,e= .returned (.tuple #[.agg #[un,um,ul],dv,ok])∧OwnC w' b0 w'.heap.size un um ul N M R.l∧N.map Nv.n=R.n∧M.map Mv.q=R.m∧w'.ownsRow b0 4 1 dv D.length (D.map Value.bool)
theorem OwnC.none (w:World) (lo hi:Nat) (h:lo≤hi):OwnC w lo hi (.slice none 0 0) (.slice none 0 0) (.slice none 0 0) [] [] []:=
 OwnC.of (mid:=lo) (World.ownsRow_nil _ _ _ _) (World.ownsRow_nil _ _ _ _) (World.ownsRow_nil _ _ _ _) (zp_.nil (Nat.le_refl _)) (zp_.nil h) (fun b hb=>by cases hb) (fun b hb=>by cases hb) (fun b hb=>by cases hb)
theorem plA_B {w':World} {b0:Nat} {ok:Bool} {p:Nat} {l:List Sp} {e:Ending} (h:PlA w' b0 ok p l e) (hb:b0≤w'.heap.size):PlB w' b0 ok (plR ok p l) (plD ok p l) e:=by
 rcases h with⟨rfl,un,um,ul,N,M,du,dc,rfl,h1,h2,h3,h4⟩ | ⟨rfl,rfl⟩
 ·exact⟨un,um,ul,N,M,_,rfl,h1,h2,h3,by simp only [plD,if_true];rw [plDid_length];exact h4⟩
 ·exact⟨_,_,_,[],[],_,rfl,OwnC.none _ _ _ hb,rfl,rfl,World.ownsRow_nil _ _ _ _⟩
theorem sm_const {α:Type} (u:α→Nat) (c:Nat) (l:List α) (h:∀i (h:i<l.length),u l[i]≤c):sm u l≤c*l.length:=by
 induction l with
 | nil=>simp [sm]
 | cons x r ih=>
  have h0:=h 0 (by simp);have h1:=ih fun i hi=>by have:=h (i+1) (by simpa using hi);simpa using this
  simp only [sm,List.length_cons,List.getElem_cons_zero] at*;rw [Nat.mul_add];omega
theorem uC_pg {p:Nat} {N:List Nv} {M:List Mv} {L:List Ld} (h:PG p (N.map Nv.n) (M.map Mv.q) L):uC N M L≤20000:=by
 have hn:N.length≤7:=by have:=h.n;have:=h.p7;rw [List.length_map] at*;omega
 have hm:M.length≤60:=by have:=h.m6;rw [List.length_map] at this;exact this
 have hl:=h.l;have a:=sm_const uN 140 N fun i hi=>by
  obtain⟨g,_⟩:=h.g i (by rw [List.length_map];exact hi);rw [List.getElem_map] at g;have h1:=g.ll;have h2:=g.vl;unfold uN;omega
 have b:=sm_const uM 128 M fun i hi=>by
  have g:=h.m M[i].q (List.mem_map.2 ⟨M[i],List.getElem_mem hi,rfl⟩);obtain⟨_,_,_,_,_,_,a7⟩:=zt_ g;unfold uM;rcases kind_in a7 with h | h | h | h <;>rw [h] at a7
  ·rw [(kind_1 a7).2.1];simp
  ·rw [(kind_2 a7).2.2.1];simp
  ·have:=(kind_3 a7).2.1;have:=(kind_3 a7).1.1;omega
  ·rw [(kind_4 a7).2.2.1];simp
 have c:=sm_const uL 2 L fun i hi=>by unfold uL;omega
 unfold uC;omega
theorem plR_bnd (p:Int) (l:List Sp) {N:List Nv} {M:List Mv} (hn:N.map Nv.n=(plR (plOk p l) p.toNat l).n) (hm:M.map Mv.q=(plR (plOk p l) p.toNat l).m):CS N M (plR (plOk p l) p.toNat l).l∧uC N M (plR (plOk p l) p.toNat l).l≤20000:=by
 cases hok:plOk p l with
 | false=>
  rw [hok] at hn hm;simp only [plR,Bool.false_eq_true,if_false,List.map_eq_nil_iff] at hn hm ⊢;subst hn hm;exact⟨⟨by simp,by simp,by simp,fun i h=>by simp at h,fun i h=>by simp at h,fun i h=>by simp at h,fun i h=>by simp at h⟩,by simp [uC,sm]⟩
 | true=>
  rw [hok] at hn hm;simp only [plR,if_true] at hn hm ⊢;have hp:1≤p∧p≤7:=by
   unfold plOk at hok;simp only [Bool.and_eq_true] at hok;simpa [inB] using hok.1
  have g:PG p.toNat (plGo (zJ_ p.toNat) l).n (plGo (zJ_ p.toNat) l).m (plGo (zJ_ p.toNat) l).l:=((newPF p.toNat (by omega) (by omega)).go l).g;rw [←hn,←hm] at g;exact⟨cs_of_pg g,uC_pg g⟩
theorem plD_len (p:Int) (l:List Sp):(plD (plOk p l) p.toNat l).length≤200:=by
 cases hok:plOk p l with
 | false=>simp [plD]
 | true=>
  simp only [plD,if_true,plDid_length];unfold plOk at hok;simp only [Bool.and_eq_true,decide_eq_true_eq] at hok;exact hok.2
set_option maxHeartbeats 16000000
theorem heldBoolS_b (v:Value) (n:Nat) (k:Int) (w:World) (hv:BR w v (mkBn k n)) (hn:n≤1048576) (hk0:0≤k) (hk1:k≤1073741824):Calls Tryz.prog 29 #[v,k] w fun e w'=>e= .returned (.int .i64 (k+n))∧Below w.heap.size w w':=(heldBoolS_at v n k w hv hn hk0 hk1).mono (fun e w' h=>⟨h.1,by rw [h.2];exact Below.refl _ _⟩)
theorem run_neq_bool7 (w:World) (b:Bool):(binOp .neq 4 (.bool b) (.bool b)).run Tryz.prog w= .ok (.bool false) w:=by
 cases b <;>kernel_rfl
theorem law7 (p:Int) (v:Value) (l:List Sp) (w:World) (hv:TR w v l) (hn0:l.length≤maxLen) (hs0:∀i (h:i<l.length),l[i].d.size≤maxLen):
  Calls Tryz.prog 7 #[p,v] w fun e w'=>e= .returned (.bool true)∧Below w.heap.size w w':=by
 have SZ:=szClusterStepS_any v l 1048576 w hv (by omega) (by omega) hn0 hs0;have HV:=fun W (hb:Below w.heap.size w W)=>hv.below hb;obtain⟨a,cap,rfl,_⟩:=hv;clear hs0;have R1:=fun w b=>run_neq_bool7 w b;go_enter Tryz.func7,Tryz.ntmps7;go_wp2_with fail;refine SZ.mono ?_;rintro e w0 ⟨⟨r,rfl,hr⟩,hB⟩;have hz0:=hB.size;clear SZ;rcases hr with rfl | ⟨hr0,hr1⟩
 ·go_wp2;go_ret;exact⟨rfl,hB⟩
 have hn:l.length≤1048576:=by omega
 have hs:∀i (h:i<l.length),l[i].d.size≤1048576:=fun i h=>by have:=totT_mem l i h;omega
 clear hr1 hn0;have T:=fun W hb=>toClusterStepS_any _ l W (HV W hb) hn;have S:=fun (x:Value) (b:Nat) (W:World) (h:W.ownsRow b 51 5 x l.length (flT l))=>(specPlay_any p l x W (by rw [flT_S] at h;exact yk_.own h) hs hn).mono (fun e w' q=>(⟨plA_B q.1 q.2.size,q.2⟩:PlB w' W.heap.size (plOk p l) (plR (plOk p l) p.toNat l) (plD (plOk p l) p.toNat l) e∧Below W.heap.size W w'));have I:=fun (x:Value) (b:Nat) (W:World) (h:W.ownsRow b 51 5 x l.length (flT l))=>(implPlay_any p l x W (by rw [flT_S] at h;exact yk_.own h) hs hn).mono (fun e w' q=>(⟨plA_B q.1 q.2.size,q.2⟩:PlB w' W.heap.size (plOk p l) (plR (plOk p l) p.toNat l) (plD (plOk p l) p.toNat l) e∧Below W.heap.size W w'));have RB:=fun {N:List Nv} {M:List Mv} =>plR_bnd p l (N:=N) (M:=M);have DL:=plD_len p l;generalize plR (plOk p l) p.toNat l=R at*;generalize plD (plOk p l) p.toNat l=D at*;generalize plOk p l=ok at*;obtain⟨Rn,Rm,Rl⟩:=R;dsimp only at RB;have HSL:Hid ((mkBn 1 1).length=1):=zP_ _ _;clear HSL hs;go_wp2_with fail;refine (T _ hB).mono ?_;rintro e w1 ⟨rfl,sA,hb1⟩;replace hB:=za_ hB hb1;have hz1:=hb1.size;clear hb1
 try simp only [World.size_alloc] at hz1
 try simp only [World.size_alloc] at sA
 go_wp2_with fail;refine (S _ _ _ sA).mono ?_;rintro e w2 ⟨⟨p1,p2,p3,N0,M0,d,rfl,O0,N0h,M0h,D0⟩,hb2⟩;replace hB:=za_ hB hb2;replace sA:=zd_ sA hb2;have hz2:=hb2.size;clear hb2
 try simp only [World.size_alloc] at hz2
 have O0b:=RB N0h M0h;obtain⟨⟨pa,pc,h1⟩,⟨pd,pe,h2⟩,pf,pg,h3⟩:=O0.shapes;subst h1 h2 h3;obtain⟨da,dc,h1⟩:=ze_ D0;subst h1;dsimp only at O0 O0b N0h M0h;replace N0h:Hid (N0.map Nv.n=Rn):=N0h;replace M0h:Hid (M0.map Mv.q=Rm):=M0h;have O0l:=O0.lohi;have geD0:=zh_ D0;have ltD0:=zg_ D0;have bx2:=zb_ w2 (.cells #[.slice pa N0.length pc,.slice pd M0.length pe,.slice pf Rl.length pg] 30);replace hB:=za_ hB bx2;replace sA:=zd_ sA bx2;replace O0:=O0.below bx2;replace D0:=zd_ D0 bx2;have P:=Box.new w2 #[.slice pa N0.length pc,.slice pd M0.length pe,.slice pf Rl.length pg] 30;clear bx2;have Pz:=P.1;simp only [World.size_alloc] at Pz;clear sA;go_wp2_with fail;refine (T _ hB).mono ?_;rintro e w3 ⟨rfl,XA,hb3⟩;replace hB:=za_ hB hb3;replace O0:=O0.below hb3;replace D0:=zd_ D0 hb3;replace P:=P.below hb3;have hz3:=hb3.size;clear hb3
 try simp only [World.size_alloc] at hz3
 simp only [World.size_alloc] at XA;have gA:=zh_ XA;have lA:=zg_ XA
 try simp only [World.size_alloc] at XA
 go_wp2_with fail;refine (I _ _ _ XA).mono ?_;rintro e w4 ⟨⟨q1,q2,q3,N1,M1,g,rfl,O1,N1h,M1h,D1⟩,hb4⟩;replace hB:=za_ hB hb4;replace O0:=O0.below hb4;replace D0:=zd_ D0 hb4;replace P:=P.below hb4;replace XA:=zd_ XA hb4;have hz4:=hb4.size;clear hb4
 try simp only [World.size_alloc] at hz4
 have O1b:=RB N1h M1h;obtain⟨⟨qa,qc,h1⟩,⟨qd,qe,h2⟩,qf,qg,h3⟩:=O1.shapes;subst h1 h2 h3;obtain⟨ga,gc,h1⟩:=ze_ D1;subst h1;dsimp only at O1 O1b N1h M1h;replace N1h:Hid (N1.map Nv.n=Rn):=N1h;replace M1h:Hid (M1.map Mv.q=Rm):=M1h;have O1l:=O1.lohi;have geD1:=zh_ D1;have ltD1:=zg_ D1;have bx4:=zb_ w4 (.cells #[.slice qa N1.length qc,.slice qd M1.length qe,.slice qf Rl.length qg] 30);replace hB:=za_ hB bx4;replace O0:=O0.below bx4;replace D0:=zd_ D0 bx4;replace P:=P.below bx4;replace XA:=zd_ XA bx4;replace O1:=O1.below bx4;replace D1:=zd_ D1 bx4;have Q:=Box.new w4 #[.slice qa N1.length qc,.slice qd M1.length qe,.slice qf Rl.length qg] 30;clear bx4;have Qz:=Q.1;simp only [World.size_alloc] at Qz;have gD:=geD1;have lD:=ltD1;have lD0:=ltD0;obtain⟨xl,x0,x1,x2⟩:=P.c3;obtain⟨yl,y0,y1,y2⟩:=Q.c3;go_wp2_with fail;refine (eqCluster_same _ _ _ _ _ _ N1 N0 M1 M0 Rl _ O1.cr O0.cr (N1h.out.trans N0h.out.symm) (M1h.out.trans M0h.out.symm) O1b.1).mono ?_;rintro e w5 ⟨rfl,hb5⟩;replace hB:=za_ hB hb5;replace O0:=O0.below hb5;replace D0:=zd_ D0 hb5;replace P:=P.below hb5;replace XA:=zd_ XA hb5;replace O1:=O1.below hb5;replace D1:=zd_ D1 hb5;replace Q:=Q.below hb5;have hz5:=hb5.size;clear hb5
 try simp only [World.size_alloc] at hz5
 clear xl x0 x1 x2 yl y0 y1 y2;go_wp2_with fail;refine (eqBoolS_same _ _ D _ (BR_of_owns D1 rfl) (BR_of_owns D0 rfl) (by omega)).mono ?_;rintro e w6 ⟨rfl,hb6⟩;replace hB:=za_ hB hb6;replace O0:=O0.below hb6;replace D0:=zd_ D0 hb6;replace P:=P.below hb6;replace XA:=zd_ XA hb6;replace O1:=O1.below hb6;replace D1:=zd_ D1 hb6;replace Q:=Q.below hb6;have hz6:=hb6.size;clear hb6
 try simp only [World.size_alloc] at hz6
 go_wp2_with fail;refine (T _ hB).mono ?_;rintro e w7 ⟨rfl,kA,hb7⟩;replace hB:=za_ hB hb7;replace O0:=O0.below hb7;replace D0:=zd_ D0 hb7;replace P:=P.below hb7;replace XA:=zd_ XA hb7;replace O1:=O1.below hb7;replace D1:=zd_ D1 hb7;replace Q:=Q.below hb7;have hz7:=hb7.size;clear hb7
 try simp only [World.size_alloc] at hz7
 try simp only [World.size_alloc] at kA
 go_wp2_with fail;refine (eqClusterStepS_same _ _ l _ (TR_of_owns XA rfl) (TR_of_owns kA rfl) hn).mono ?_;rintro e w8 ⟨rfl,hb8⟩;replace hB:=za_ hB hb8;replace O0:=O0.below hb8;replace D0:=zd_ D0 hb8;replace P:=P.below hb8;replace XA:=zd_ XA hb8;replace O1:=O1.below hb8;replace D1:=zd_ D1 hb8;replace Q:=Q.below hb8;replace kA:=zd_ kA hb8;have hz8:=hb8.size;clear hb8
 try simp only [World.size_alloc] at hz8
 clear kA;have bA:=lA _ rfl;have cA:=gA _ rfl;go_wp2_with fail;refine (markClusterStepS_own _ _ l 1 _ XA hn (by omega) (by omega)).mono ?_;rintro e w9 ⟨rfl,_,hc9⟩;replace O0:=O0.chg hc9 (fun b hb=> .inr (by have:=gA b hb;omega));replace O1:=O1.chg hc9 (fun b hb=> .inl (by have:=lA b hb;omega));replace hB:=hB.trans (hc9.below (B:=w.heap.size) (by omega) (fun b h=>by have:=gA b h;omega));replace D0:=hc9.owns D0 (fun b hb hh=>by have:=lD0 b hb;have:=gA b hh;omega);replace P:=hc9.box P (fun hh=>by have:=gA _ hh;omega);replace D1:=hc9.owns D1 (fun b hb hh=>by have:=gD b hb;have:=lA b hh;omega);replace Q:=hc9.box Q (fun hh=>by have:=lA _ hh;omega);have hz9:=hc9.size;clear hc9
 try simp only [World.size_alloc] at hz9
 clear XA;obtain⟨xl,x0,x1,x2⟩:=P.c3;obtain⟨yl,y0,y1,y2⟩:=Q.c3;go_wp2_with fail;refine (eqCluster_same _ _ _ _ _ _ N1 N0 M1 M0 Rl _ O1.cr O0.cr (N1h.out.trans N0h.out.symm) (M1h.out.trans M0h.out.symm) O1b.1).mono ?_;rintro e w10 ⟨rfl,hb10⟩;replace hB:=za_ hB hb10;replace O0:=O0.below hb10;replace D0:=zd_ D0 hb10;replace P:=P.below hb10;replace O1:=O1.below hb10;replace D1:=zd_ D1 hb10;replace Q:=Q.below hb10;have hz10:=hb10.size;clear hb10
 try simp only [World.size_alloc] at hz10
 clear xl x0 x1 x2 yl y0 y1 y2;go_wp2_with fail;refine (eqBoolS_same _ _ D _ (BR_of_owns D1 rfl) (BR_of_owns D0 rfl) (by omega)).mono ?_;rintro e w11 ⟨rfl,hb11⟩;replace hB:=za_ hB hb11;replace O0:=O0.below hb11;replace D0:=zd_ D0 hb11;replace P:=P.below hb11;replace O1:=O1.below hb11;replace D1:=zd_ D1 hb11;replace Q:=Q.below hb11;have hz11:=hb11.size;clear hb11
 try simp only [World.size_alloc] at hz11
 obtain⟨yl,y0,y1,y2⟩:=Q.c3;go_wp2_with fail;refine (markCluster_ownD _ _ _ N1 M1 Rl _ _ 1 _ O1 O1b.1 (by omega) (by have:=O1b.2;omega) _ _ _ _ D1).mono ?_;rintro e w12 ⟨rfl,OM,hc12⟩;replace O0:=O0.chg hc12 (fun b hb=> .inr (by omega));replace hB:=hB.trans (hc12.below (B:=w.heap.size) (by omega) (fun b h=>by omega));replace D0:=hc12.owns D0 (fun b hb hh=>by have:=lD0 b hb;omega);replace P:=hc12.box P (fun hh=>by omega);replace D1:=hc12.owns D1 (fun b hb hh=>hh.2 hb);replace Q:=hc12.box Q (fun hh=>by omega);have hz12:=hc12.size;clear hc12
 try simp only [World.size_alloc] at hz12
 clear yl y0 y1 y2;clear O1;have OMl:=OM.lohi;obtain⟨U,HU⟩:∃U:Nat,Hid (uC N1 M1 Rl=U):=⟨uC N1 M1 Rl,(rfl:_=_)⟩;have hU:U≤20000:=by rw [←HU.out];exact O1b.2
 rw [HU.out];go_wp2_with fail;refine (markBoolS_own _ _ D _ _ D1 (by omega) (by omega) (by omega)).mono ?_;rintro e w13 ⟨rfl,DM,hc13⟩;replace O0:=O0.chg hc13 (fun b hb=> .inr (by have:=gD b hb;omega));replace OM:=OM.keepD D1 hc13;replace hB:=hB.trans (hc13.below (B:=w.heap.size) (by omega) (fun b h=>by have:=gD b h;omega));replace D0:=hc13.owns D0 (fun b hb hh=>by have:=lD0 b hb;have:=gD b hh;omega);replace P:=hc13.box P (fun hh=>by have:=gD _ hh;omega);replace Q:=hc13.box Q (fun hh=>by have:=lD _ hh;omega);have hz13:=hc13.size;clear hc13
 try simp only [World.size_alloc] at hz13
 clear D1;have HI:∀W b x,W.ownsRow b 4 1 x D.length ((mkBn (1+(U:Nat)) D.length).map Value.bool)→BR W x (mkBn (1+(U:Nat)) D.length):=fun W b x h=>BR_of_owns h (zP_ _ _).symm;obtain⟨yl,y0,y1,y2⟩:=Q.c3;have KH:=heldCluster_any _ _ _ N1 M1 Rl 1 _ OM.cr O1b.1 (by omega) (by have:=O1b.2;omega);rw [HU.out] at KH;go_wp2_with fail;refine (KH).mono ?_;rintro e w14 ⟨rfl,hb14⟩;replace hB:=za_ hB hb14;replace O0:=O0.below hb14;replace D0:=zd_ D0 hb14;replace P:=P.below hb14;replace Q:=Q.below hb14;replace OM:=OM.below hb14;replace DM:=zd_ DM hb14;have hz14:=hb14.size;clear hb14
 try simp only [World.size_alloc] at hz14
 clear yl y0 y1 y2;clear KH;go_wp2_with fail;refine (heldBoolS_b _ D.length _ _ (HI _ _ _ DM) (by omega) (by omega) (by omega)).mono ?_;rintro e w15 ⟨rfl,hb15⟩;replace hB:=za_ hB hb15;replace O0:=O0.below hb15;replace D0:=zd_ D0 hb15;replace P:=P.below hb15;replace Q:=Q.below hb15;replace OM:=OM.below hb15;replace DM:=zd_ DM hb15;have hz15:=hb15.size;clear hb15
 try simp only [World.size_alloc] at hz15
 go_wp2_with fail;refine (T _ hB).mono ?_;rintro e w16 ⟨rfl,tA,hb16⟩;replace hB:=za_ hB hb16;replace O0:=O0.below hb16;replace D0:=zd_ D0 hb16;replace P:=P.below hb16;replace Q:=Q.below hb16;replace OM:=OM.below hb16;replace DM:=zd_ DM hb16;have hz16:=hb16.size;clear hb16
 try simp only [World.size_alloc] at hz16
 try simp only [World.size_alloc] at tA
 try simp only [World.size_alloc] at tA
 go_wp2_with fail;refine (I _ _ _ tA).mono ?_;rintro e w17 ⟨⟨r1,r2,r3,N2,M2,h,rfl,O2,N2h,M2h,D2⟩,hb17⟩;replace hB:=za_ hB hb17;replace O0:=O0.below hb17;replace D0:=zd_ D0 hb17;replace P:=P.below hb17;replace Q:=Q.below hb17;replace OM:=OM.below hb17;replace DM:=zd_ DM hb17;replace tA:=zd_ tA hb17;have hz17:=hb17.size;clear hb17
 try simp only [World.size_alloc] at hz17
 have O2b:=RB N2h M2h;obtain⟨⟨ra,rc,h1⟩,⟨rd,re,h2⟩,rf,rg,h3⟩:=O2.shapes;subst h1 h2 h3;obtain⟨ha,hc,h1⟩:=ze_ D2;subst h1;dsimp only at O2 O2b N2h M2h;replace N2h:Hid (N2.map Nv.n=Rn):=N2h;replace M2h:Hid (M2.map Mv.q=Rm):=M2h;have O2l:=O2.lohi;have geD2:=zh_ D2;have ltD2:=zg_ D2;have bx17:=zb_ w17 (.cells #[.slice ra N2.length rc,.slice rd M2.length re,.slice rf Rl.length rg] 30);replace hB:=za_ hB bx17;replace O0:=O0.below bx17;replace D0:=zd_ D0 bx17;replace P:=P.below bx17;replace Q:=Q.below bx17;replace OM:=OM.below bx17;replace DM:=zd_ DM bx17;replace tA:=zd_ tA bx17;replace O2:=O2.below bx17;replace D2:=zd_ D2 bx17;have E:=Box.new w17 #[.slice ra N2.length rc,.slice rd M2.length re,.slice rf Rl.length rg] 30;clear bx17;have Ez:=E.1;simp only [World.size_alloc] at Ez;clear tA;obtain⟨xl,x0,x1,x2⟩:=P.c3;obtain⟨yl,y0,y1,y2⟩:=E.c3;go_wp2_with fail;refine (eqCluster_same _ _ _ _ _ _ N2 N0 M2 M0 Rl _ O2.cr O0.cr (N2h.out.trans N0h.out.symm) (M2h.out.trans M0h.out.symm) O2b.1).mono ?_;rintro e w18 ⟨rfl,hb18⟩;replace hB:=za_ hB hb18;replace O0:=O0.below hb18;replace D0:=zd_ D0 hb18;replace P:=P.below hb18;replace Q:=Q.below hb18;replace OM:=OM.below hb18;replace DM:=zd_ DM hb18;replace O2:=O2.below hb18;replace D2:=zd_ D2 hb18;replace E:=E.below hb18;have hz18:=hb18.size;clear hb18
 try simp only [World.size_alloc] at hz18
 clear xl x0 x1 x2 yl y0 y1 y2;go_wp2_with fail;refine (eqBoolS_same _ _ D _ (BR_of_owns D2 rfl) (BR_of_owns D0 rfl) (by omega)).mono ?_;rintro e w19 ⟨rfl,hb19⟩;replace hB:=za_ hB hb19;replace O0:=O0.below hb19;replace D0:=zd_ D0 hb19;replace P:=P.below hb19;replace Q:=Q.below hb19;replace OM:=OM.below hb19;replace DM:=zd_ DM hb19;replace O2:=O2.below hb19;replace D2:=zd_ D2 hb19;replace E:=E.below hb19;have hz19:=hb19.size;clear hb19
 try simp only [World.size_alloc] at hz19
 clear O2 D2 E O0 D0 P;obtain⟨yl,y0,y1,y2⟩:=Q.c3;have KH:=heldCluster_any _ _ _ N1 M1 Rl 1 _ OM.cr O1b.1 (by omega) (by have:=O1b.2;omega);rw [HU.out] at KH;go_wp2_with fail;refine (KH).mono ?_;rintro e w20 ⟨rfl,hb20⟩;replace hB:=za_ hB hb20;replace Q:=Q.below hb20;replace OM:=OM.below hb20;replace DM:=zd_ DM hb20;have hz20:=hb20.size;clear hb20
 try simp only [World.size_alloc] at hz20
 clear yl y0 y1 y2;clear KH;go_wp2_with fail;refine (heldBoolS_b _ D.length _ _ (HI _ _ _ DM) (by omega) (by omega) (by omega)).mono ?_;rintro e w21 ⟨rfl,hb21⟩;replace hB:=za_ hB hb21;replace Q:=Q.below hb21;replace OM:=OM.below hb21;replace DM:=zd_ DM hb21;have hz21:=hb21.size;clear hb21
 try simp only [World.size_alloc] at hz21
 clear OM DM HI T S I Q;go_wp2;go_ret;exact⟨rfl,hB⟩
end Go.Proofs.YtapfhhmimkkhnaaGreat
namespace Go.Proofs.YtapfhhmimkkhnaaGreat
open Go.RowKit Go.Deep
set_option linter.unusedVariables false
set_option maxRecDepth 100000

theorem TR_of_trod {H:Type} {enc:TypeId×Value→H} {P:Program} {w:World} {base:Nat} {spare:Nat→Bool} {held:Bool} {t e:TypeId} {f0 f1 f2 f3 f4:Field} {fuel:Nat} {v:Value} {x:DataW H×List MemPlace}
  (ht:P.underlying t=some (.slice e)) (he:P.underlying e=some (.struct #[f0,f1,f2,f3,f4])) (ce:P.cellsOf e=5) (hone:oneCellFields P #[f0,f1,f2,f3,f4]=true)
  (u0:P.underlying f0.type=some (.int .i64)) (u1:P.underlying f1.type=some (.int .i64)) (u2:P.underlying f2.type=some (.int .i64)) (u3:P.underlying f3.type=some (.int .i64)) (u4:P.underlying f4.type=some .string)
  (h:DataW.trod enc P w base spare held fuel t [v]=some x):
  ∃l:List Sp,TR w v l∧l.length≤maxLen∧∀i (hi:i<l.length),l[i].d.size≤maxLen:=by
 obtain⟨p0,k0⟩:=hone_of hone 0 f0 rfl;obtain⟨p1,k1⟩:=hone_of hone 1 f1 rfl;obtain⟨p2,k2⟩:=hone_of hone 2 f2 rfl;obtain⟨p3,k3⟩:=hone_of hone 3 f3 rfl;obtain⟨p4,k4⟩:=hone_of hone 4 f4 rfl;rcases open_slice ht h with⟨hv,_⟩ | ⟨a,len,cap,m,n,D,Pl,hv,hb,hl,hm,hmm,hx,hel⟩
 ·simp only [List.cons.injEq,and_true] at hv;subst hv;exact⟨[],⟨none,0,rfl,fun h=>absurd rfl h⟩,by simp,by simp⟩
 ·simp only [List.cons.injEq,and_true] at hv;subst hv;have hlm:len≤m:=by rw [hmm];split <;>omega
  have each:∀i,i<len→∃s:Sp,(w.cell? ((a.add (i*5)).add 0)=some (.int .i64 s.ki)∧w.cell? ((a.add (i*5)).add 1)=some (.int .i64 s.no)∧w.cell? ((a.add (i*5)).add 2)=some (.int .i64 s.k)∧w.cell? ((a.add (i*5)).add 3)=some (.int .i64 s.ma)∧w.cell? ((a.add (i*5)).add 4)=some (.string s.d))∧s.d.size≤maxLen:=by
   intro i hi;obtain⟨cs',h1,h2⟩:=hel i (by omega);rw [ce] at h1;obtain⟨_,hlen,hcell⟩:=World.cells?_some h1;obtain⟨xs,k,hk,hxy,_,hxl,hf⟩:=DataW.trod_struct he h2
   match xs,hxl,cs',hlen with
   | [y0,y1,y2,y3,y4],_,[c0,c1,c2,c3,c4],_=>
    have g0:=hf 0 f0 rfl;have g1:=hf 1 f1 rfl;have g2:=hf 2 f2 rfl;have g3:=hf 3 f3 rfl;have g4:=hf 4 f4 rfl;simp [p0,k0] at g0;simp [p1,k1] at g1;simp [p2,k2] at g2;simp [p3,k3] at g3;simp [p4,k4] at g4;obtain⟨z0,e0,_,w0⟩:=DataW.trod_int u0 g0;obtain⟨z1,e1,_,w1⟩:=DataW.trod_int u1 g1;obtain⟨z2,e2,_,w2⟩:=DataW.trod_int u2 g2;obtain⟨z3,e3,_,w3⟩:=DataW.trod_int u3 g3;obtain⟨z4,e4,_,s4⟩:=DataW.trod_string u4 g4;simp only [List.cons.injEq,and_true] at e0 e1 e2 e3 e4;subst e0 e1 e2 e3 e4;exact⟨⟨z0,z1,z2,z3,z4⟩,⟨hcell 0 (by omega),hcell 1 (by omega),hcell 2 (by omega),hcell 3 (by omega),hcell 4 (by omega)⟩,s4⟩
  have all:∀i,∃s:Sp,i<len→(w.cell? ((a.add (i*5)).add 0)=some (.int .i64 s.ki)∧w.cell? ((a.add (i*5)).add 1)=some (.int .i64 s.no)∧w.cell? ((a.add (i*5)).add 2)=some (.int .i64 s.k)∧w.cell? ((a.add (i*5)).add 3)=some (.int .i64 s.ma)∧w.cell? ((a.add (i*5)).add 4)=some (.string s.d))∧s.d.size≤maxLen:=by
   intro i;by_cases hi:i<len
   ·obtain⟨q,hq⟩:=each i hi;exact⟨q,fun _=>hq⟩
   ·exact⟨Sp.zero,fun h=>absurd h hi⟩
  obtain⟨F,hF⟩:=Classical.skolem.1 all;have hlen:((List.range len).map F).length=len:=by simp
  refine⟨(List.range len).map F,⟨some a,cap,by rw [hlen],fun hne=> ?_⟩,by rw [hlen];omega,fun i hi=> ?_⟩
  ·have hpos:0<len:=by
    rcases Nat.eq_zero_or_pos len with h0 | h0
    ·subst h0;simp at hne
    ·exact h0
   obtain⟨⟨hc0,_⟩,_⟩:=hF 0 hpos;have hsp:a.spot=none:=by
    have:=World.cell?_spot hc0;simpa [Addr.add] using this
   obtain⟨b,off,spot⟩:=a;simp only at hsp;subst hsp;have hbl:=World.block_lt_of_cell? _ _ hc0;have add5:∀i j:Nat,((⟨b,off,none⟩:Addr).add (i*5)).add j=⟨b,off+i*5+j,none⟩:=by
    intro i j;by_cases h1:i=0
    ·subst h1;by_cases h2:j=0 <;>simp [Addr.add,h2]
    ·have h3:¬(i*5=0):=by omega
     by_cases h2:j=0 <;>simp [Addr.add,h2,h3]
   refine⟨b,off,rfl,by simpa [Addr.add] using hbl,fun i hi=> ?_⟩;have hi':i<len:=by simpa using hi
   obtain⟨⟨q0,q1,q2,q3,q4⟩,_⟩:=hF i hi';rw [add5] at q0 q1 q2 q3 q4;have hg:((List.range len).map F)[i]=F i:=by simp
   rw [hg];exact⟨q0,q1,q2,q3,q4⟩
  ·have hi':i<len:=by simpa using hi
   have hg:((List.range len).map F)[i]=F i:=by simp
   rw [hg];exact (hF i hi').2
end Go.Proofs.YtapfhhmimkkhnaaGreat
