/-
  Marks in a list of entries: markText, markEntryS, heldEntryS; rows marked and held, nil or not.
  Nodes and messages, plainly; the small functions: isPeer, l1In, l11Peers, goodEntry, l3Entry, areMost, isOwnTerm, Contains, l10Has.
  slices.Index, slices.Contains, l10Has; goodEntries, l11Entries.
-/
import Derived.Test.YtapfhhmimkkhnaaGreatAToRF1
import Derived.Test.YtapfhhmimkkhnaaGreatRF2ToK9
namespace Go.Proofs.YtapfhhmimkkhnaaGreat
open Go.RowKit
set_option linter.unusedVariables false
set_option maxRecDepth 100000
set_option maxHeartbeats 4000000
set_option maxRecDepth 100000 in
theorem markText_any (k:Int) (w:World) (h1:1≤k) (h2:k≤100000000):
  Calls Tryz.prog 56 #[k] w fun e w'=>e= .returned (.string (mkT k))∧Below w.heap.size w w':=by
 obtain⟨n,rfl⟩:=Int.eq_ofNat_of_zero_le (show 0≤k from by omega);go_enter Tryz.func56,Tryz.ntmps56;go_wp2
 go_loopw [0,3] (fun k s wr=>∃(j m:Nat) (acc:List UInt8),j≤20∧acc.length≤j∧m≤100000000∧m<10 ^ (20-j)∧k= .int .i64 m∧s= .string ⟨acc.toArray⟩∧mkD 20 n []=mkD (20-j) m acc∧Below w.heap.size w wr) (fun k _ _=>(intOf k).toNat)
 case atStart=>exact⟨0,n,[],by omega,by simp,by omega,by omega,rfl,rfl,rfl,Below.refl _ _⟩
 case round=>
  obtain⟨j,m,acc,hj,ha,hm,hp,rfl,rfl,he,hb⟩:=hrel;have HE:Hid (mkD 20 n []=mkD (20-j) m acc):=he;have HP:Hid (m<10 ^ (20-j)):=hp;clear he hp;by_cases h0:(0:Int)<(m:Int)
  ·obtain⟨c,hc⟩:∃c:UInt8,c=UInt8.ofNat (48+m % 10):=⟨_,rfl⟩;have hcn:((c.toNat:Nat):Int)=48+(m:Int) % 10:=by
    rw [hc,UInt8.toNat_ofNat'];omega
   have hcv:(convert 22 9 (.slice (some ⟨wr.heap.size,0,none⟩) 1 1)).run Tryz.prog (wr.alloc (.cells #[.int .u8 (48+(m:Int) % 10)] 5))= .ok (.string ⟨#[c]⟩) (wr.alloc (.cells #[.int .u8 (48+(m:Int) % 10)] 5)):=by
    have:=run_convert_bytes_back (P:=Tryz.prog) (wr.alloc (.cells #[.int .u8 (48+(m:Int) % 10)] 5)) 22 9 5 ⟨wr.heap.size,0,none⟩ 1 [c] Tryz.underlying22 Tryz.underlying5 Tryz.underlying9 (by
     intro j hj;have:j=0:=by simpa using hj
     subst this;simp [Addr.add,hcn])
    simpa using this
   have hz:=hb.size;have hj20:j<20:=by
    rcases Nat.lt_or_ge j 20 with h | h
    ·exact h
    ·have:=HP.out;rw [show 20-j=0 from by omega] at this;omega
   have HN:Hid (mkD 20 n []=mkD (20-(j+1)) (m / 10) (c::acc)):=by
    show mkD 20 n []=_;rw [HE.out,show 20-j=(20-(j+1))+1 from by omega,mkD,if_neg (by omega),←hc]
   have HP2:Hid (m / 10<10 ^ (20-(j+1))):=by
    show m / 10<_;have:=HP.out;rw [show 20-j=(20-(j+1))+1 from by omega,Nat.pow_succ] at this;omega
   clear hc hcn;go_wp2;go_roundw
   case rel=>exact⟨j+1,m / 10,c::acc,by omega,by simp;omega,by omega,HP2.out,by go_num,congrArg Value.string (bcat [c] acc),HN.out,hb.alloc hz _⟩
   case measure=>simp [intOf];omega
  ·obtain rfl:m=0:=by omega
   go_wp2;go_ret;refine⟨?_,hb⟩;rw [mkT_pos n (by omega),HE.out,mkD_zero];exact congrArg (fun s=>Ending.returned (Value.string s)) (bcat [109] acc)
def mkE (k:Int):En:=⟨k,mkT (k+1)⟩
def mkEs (k:Int) (n:Nat):List En:=(List.range n).map fun j:Nat=>mkE (k+2*(j:Int))
theorem zC_ (k:Int) (n:Nat):(mkEs k n).length=n:=by simp [mkEs]
theorem mkEs_at (k:Int) (n j:Nat) (h:j<n):(mkEs k n)[j]'(by rw [zC_];exact h)=mkE (k+2*(j:Int)):=by simp [mkEs]
def mkPE (l:List En) (k:Int) (j:Nat):List En:=(mkEs k l.length).take j++l.drop j
theorem mkPE_set (l:List En) (k:Int) (j:Nat) (h:j<l.length):(mkPE l k j).set j (mkE (k+2*(j:Int)))=mkPE l k (j+1):=by
 unfold mkPE;have h1:((mkEs k l.length).take j).length=j:=by rw [List.length_take,zC_];omega
 rw [List.set_append_right _ _ (by omega),h1,Nat.sub_self,List.take_succ_eq_append_getElem (by rw [zC_];exact h),mkEs_at k _ j h,List.drop_eq_getElem_cons h,sB_,List.append_assoc]
 rfl
theorem mkPE_all (l:List En) (k:Int):mkPE l k l.length=mkEs k l.length:=by
 unfold mkPE;rw [List.take_of_length_le (by rw [zC_];omega),List.drop_eq_nil_of_le (by omega),List.append_nil]
theorem mkPE_zero (l:List En) (k:Int):mkPE l k 0=l:=by simp [mkPE]
theorem markEntryS_at (g cap base:Nat) (l:List En) (k:Int) (w:World) (ho:w.ownsRow base 44 2 (.slice (some ⟨g,0,none⟩) l.length cap) l.length (zx_ l)) (hn:l.length≤1048576) (h1:1≤k) (h2:k≤50000000):
  Calls Tryz.prog 103 #[.slice (some ⟨g,0,none⟩) l.length cap,k] w fun e w'=>e= .returned (.int .i64 (k+2*l.length))∧w'.ownsRow base 44 2 (.slice (some ⟨g,0,none⟩) l.length cap) l.length (zx_ (mkEs k l.length))∧Chg (· =g) w w':=by
 go_enter Tryz.func103,Tryz.ntmps103;go_wp2
 go_loopw [1,5] (fun t i wr=>∃j:Nat,j≤l.length∧i= .int .i64 j∧t= .int .i64 (k+2*j)∧wr.ownsRow base 44 2 (.slice (some ⟨g,0,none⟩) l.length cap) l.length (zx_ (mkPE l k j))∧Chg (· =g) w wr) (fun _ i _=>l.length-(intOf i).toNat)
 case atStart=>exact⟨0,Nat.zero_le _,rfl,by go_num,by rw [mkPE_zero];exact ho,Chg.refl _ _⟩
 case round=>
  clear ho;obtain⟨j,hj,rfl,rfl,hown,hch⟩:=hrel;by_cases hlt:j<l.length
  ·have HS:Hid (zx_ ((mkPE l k j).set j (mkE (k+2*(j:Int))))=zx_ (mkPE l k (j+1))):=by show _=_;rw [mkPE_set l k j hlt]
   have HF:Hid (((zx_ (mkPE l k j)).set (j*2) (.int .i64 (k+2*j))).set (j*2+1) (.string (mkT (k+2*j+1)))=zx_ ((mkPE l k j).set j (mkE (k+2*(j:Int))))):=flat2_set (mkPE l k j) j (mkE (k+2*(j:Int)));have HG:Hid (((zx_ (mkPE l k j)).set (j*2) (.int .i64 (k+2*j))).set (j*2+1) (.string (mkT (k+2*j+1)))=zx_ (mkPE l k (j+1))):=HF.out.trans HS.out;clear HS HF;generalize zx_ (mkPE l k j)=ys at*;have hgl:=(zU_ hown).2;have o1:=(hown.stored (j*2) (.int .i64 (k+2*j))).1;obtain⟨⟨u0,d0⟩,f0⟩:=owns2_at hown j hlt 0 (by omega);rw [Nat.add_zero] at d0 f0;have C2:=hch.setCell (p:=⟨g,j*2,none⟩) rfl (.int .i64 (k+2*j));clear hown hch;go_wp2_with fail;refine (markText_any _ _ (by omega) (by omega)).mono ?_;rintro e w1 ⟨rfl,hb1⟩;replace o1:=zd_ o1 hb1;have C1:=C2.trans (Chg.of_below hb1);have hgl1:=(zU_ o1).2;obtain⟨⟨u2,d2⟩,f2⟩:=owns2_at o1 j hlt 1 (by omega);have o3:=(o1.stored (j*2+1) (.string (mkT (k+2*j+1)))).1;have C3:=C1.setCell (p:=⟨g,j*2+1,none⟩) rfl (.string (mkT (k+2*j+1)));have HO:Hid _:=o3;clear d0 f0 C1 C2 hb1 o1 o3;generalize mkT (k+2*j+1)=t1 at*;go_wp2;go_roundw
   case rel=>exact⟨j+1,by omega,by go_num,by go_num,by rw [←HG.out];exact HO.out,C3⟩
   case measure=>simp [intOf];omega
  ·obtain rfl:j=l.length:=by omega
   rw [mkPE_all] at hown;go_wp2;go_ret;exact⟨rfl,hown,hch⟩
theorem heldEntryS_at (v:Value) (n:Nat) (k:Int) (w:World) (hv:ER w v (mkEs k n)) (hn:n≤1048576) (h1:1≤k) (h2:k≤50000000):
  Calls Tryz.prog 105 #[v,k] w fun e w'=>e= .returned (.int .i64 (k+2*n))∧Below w.heap.size w w':=by
 obtain⟨a,cap,rfl,hc⟩:=hv;rw [zC_];go_enter Tryz.func105,Tryz.ntmps105;go_wp2
 go_loopw [1,5] (fun t i wr=>∃j:Nat,j≤n∧i= .int .i64 j∧t= .int .i64 (k+2*j)∧Below w.heap.size w wr) (fun _ i _=>n-(intOf i).toNat)
 case atStart=>exact⟨0,Nat.zero_le _,rfl,by go_num,Below.refl _ _⟩
 case round=>
  obtain⟨j,hj,rfl,rfl,hb⟩:=hrel;by_cases hlt:j<n
  ·obtain⟨b,off,rfl,hbl,hcell⟩:=hc (by intro e;have:=congrArg List.length e;rw [zC_] at this;simp at this;omega);obtain⟨c0,c1⟩:=hcell j (by rw [zC_];exact hlt);rw [mkEs_at k n j hlt] at c0 c1;have hz:=hb.size;have hbW:b<wr.heap.size:=by omega
   replace c0:=(hb.cell (p:=⟨b,off+j*2,none⟩) hbl).trans c0;replace c1:=(hb.cell (p:=⟨b,off+j*2+1,none⟩) hbl).trans c1;unfold mkE at c0 c1;dsimp only at c0 c1;have KA:=fun w=>markText_any (k+2*j+1) w (by omega) (by omega);generalize mkT (k+2*j+1)=t1 at*;have q2:=fun x:WC wr.heap.size wr=>(x.ok.cell (p:=⟨b,off+j*2+1,none⟩) hbW).trans c1;have hne:Nonempty (WC wr.heap.size wr):=⟨⟨_,Below.refl _ _⟩⟩;clear hcell hc;go_wp2_with fail;refine wp_region_calm (B:=wr.heap.size) (W:=wr) (by kernel_rfl) (by kernel_rfl) (Below.refl _ _) ?_
   repeat (go_big_quiet_step (first | (go_at_call 56;with_reducible exact yv_ (Nat.le_refl _) (KA _))))
   refine wpQuiet_nil ?_;intro _ hw';obtain⟨x,hx⟩:=hw';subst hx;have hB1:=hb.trans (x.ok.mono hz);clear KA q2 hne c0 c1 hb;generalize x.w=w1 at*;clear x;go_wp2;go_roundw
   case rel=>exact⟨j+1,by omega,by go_num,by go_num,hB1⟩
   case measure=>simp [intOf];omega
  ·obtain rfl:j=n:=by omega
   clear hc;go_wp2;go_ret;exact⟨rfl,hb⟩
theorem markEntryS_nil (k:Int) (w:World) (h1:1≤k) (h2:k≤50000000):Calls Tryz.prog 103 #[(),k] w fun e w'=>e= .returned (.int .i64 k)∧w'=w:=by
 go_enter Tryz.func103,Tryz.ntmps103;go_wp2
 go_loopw [1,5] (fun t i wr=>i= .int .i64 0∧t= .int .i64 k∧wr=w) (fun _ _ _=>0)
 case atStart=>exact⟨rfl,rfl,rfl⟩
 case round=>
  obtain⟨rfl,rfl,rfl⟩:=hrel;go_wp2;go_ret;exact⟨rfl,rfl⟩
theorem zi_ {w:World} {b1 b2:Nat} {e1 e2:TypeId} {s1 s2:Nat} {v1 v2:Value} {n1 n2:Nat} {x1 x2:List Value} (h1:w.ownsRow b1 e1 s1 v1 n1 x1) (h2:w.ownsRow b2 e2 s2 v2 n2 x2) (hne:e1≠e2):∀g,v1.ownBlock=some g→v2.ownBlock≠some g:=by
 intro g hg hg2;rcases h1.2 with⟨rfl,_⟩ | ⟨g1,c1,cur1,rfl,_,hh1,_⟩
 ·simp [Value.ownBlock] at hg
 ·rcases h2.2 with⟨rfl,_⟩ | ⟨g2,c2,cur2,rfl,_,hh2,_⟩
  ·simp [Value.ownBlock] at hg2
  ·simp only [Value.ownBlock,Option.some.injEq] at hg hg2;subst hg hg2;rw [hh1] at hh2;simp only [Option.some.injEq,Obj.cells.injEq] at hh2;exact hne hh2.2.1
theorem zf_ {w:World} {base base':Nat} {e:TypeId} {size:Nat} {v:Value} {n:Nat} {xs:List Value} (h:w.ownsRow base e size v n xs) (hb:base'≤base):w.ownsRow base' e size v n xs:=by
 refine⟨h.1,?_⟩;rcases h.2 with h0 | ⟨g,cap,cur,hv,hbg,r⟩
 ·exact .inl h0
 ·exact .inr ⟨g,cap,cur,hv,Nat.le_trans hb hbg,r⟩
theorem markIntS_own (v:Value) (base n:Nat) (l:List Value) (k:Int) (w:World) (ho:w.ownsRow base 3 1 v n l) (hl:l.length=n) (hn:n≤1048576) (hk0:0≤k) (hk1:k≤1073741824):
  Calls Tryz.prog 104 #[v,k] w fun e w'=>e= .returned (.int .i64 (k+n))∧w'.ownsRow base 3 1 v n (mkI k n)∧Chg (fun b=>v.ownBlock=some b) w w':=by
 rcases ho.2 with⟨rfl,h0⟩ | ⟨g,cap,cur,rfl,_⟩
 ·subst h0;refine (markIntS_nil k w).mono ?_;rintro e w' ⟨rfl,rfl⟩;exact⟨by simp,World.ownsRow_nil _ _ _ _,Chg.refl _ _⟩
 ·subst hl;refine (markIntS_at g cap base l k w ho hn hk0 hk1).mono ?_;rintro e w' ⟨rfl,h1,h2⟩;exact⟨rfl,h1,h2.mono fun b hb=>by rw [hb];rfl⟩
theorem markEntryS_own (v:Value) (base:Nat) (l:List En) (k:Int) (w:World) (ho:w.ownsRow base 44 2 v l.length (zx_ l)) (hn:l.length≤1048576) (h1:1≤k) (h2:k≤50000000):
  Calls Tryz.prog 103 #[v,k] w fun e w'=>e= .returned (.int .i64 (k+2*l.length))∧w'.ownsRow base 44 2 v l.length (zx_ (mkEs k l.length))∧Chg (fun b=>v.ownBlock=some b) w w':=by
 rcases ho.2 with⟨rfl,h0⟩ | ⟨g,cap,cur,rfl,_⟩
 ·rw [h0];refine (markEntryS_nil k w h1 h2).mono ?_;rintro e w' ⟨rfl,rfl⟩;exact⟨by simp,World.ownsRow_nil _ _ _ _,Chg.refl _ _⟩
 ·refine (markEntryS_at g cap base l k w ho hn h1 h2).mono ?_;rintro e w' ⟨rfl,h1,h2⟩;exact⟨rfl,h1,h2.mono fun b hb=>by rw [hb];rfl⟩
set_option maxHeartbeats 200000
def isP (i n:Int):Bool:=decide (0≤i)&&decide (i<n)
def inB (n lo hi:Int):Bool:=decide (lo≤n)&&decide (n≤hi)
def yp_ (e:En):Bool:=decide (1≤e.t)&&decide (e.t≤1000000)&&decide ((e.d.size:Int)≤100)
def gE (T:Int):Int→List En→Bool
 | _,[]=>true
 | a,e::r=>yp_ e&&decide (a≤e.t)&&decide (e.t≤T)&&gE T e.t r
theorem gE_drop (T a:Int) (l:List En) (k:Nat) (h:k<l.length):gE T a (l.drop k)=(yp_ l[k]&&decide (a≤l[k].t)&&decide (l[k].t≤T)&&gE T l[k].t (l.drop (k+1))):=by
 rw [List.drop_eq_getElem_cons h];rfl
theorem gE_one (T:Int) (l:List En):gE T 1 l=gE T 0 l:=by
 cases l with
 | nil=>rfl
 | cons e r=>
  simp only [gE]
  congr 2
  unfold yp_;by_cases h:1≤e.t
  ·have h0:(0:Int)≤e.t:=by omega
   simp [h,h0]
  ·simp [h]
def vAt (pe:Int) (l:List Int) (k:Nat):Bool:=isP (l.getD k 0) pe&&(k==0 || decide (l.getD (k-1) 0<l.getD k 0))
def vTo (pe:Int) (l:List Int):Nat→Bool
 | 0=>true
 | k+1=>vTo pe l k&&vAt pe l k
def gV (pe:Int) (l:List Int):Bool:=vTo pe l l.length
theorem vTo_false (pe:Int) (l:List Int) (k n:Nat) (h:k<n) (hk:vAt pe l k=false):vTo pe l n=false:=by
 induction n with
 | zero=>omega
 | succ n ih=>
  simp only [vTo];by_cases e:k=n
  ·subst e;rw [hk];simp
  ·rw [ih (by omega)];rfl
theorem yj_ (l:List Int) (k:Nat) (h:k<l.length):l.getD k 0=l[k]:=by simp [h]
def gM (n:Int) (l:List Int):Bool:=l.all fun m=>decide (0≤m)&&decide (m≤n)
theorem gM_drop (n:Int) (l:List Int) (k:Nat) (h:k<l.length):gM n (l.drop k)=((decide (0≤l[k])&&decide (l[k]≤n))&&gM n (l.drop (k+1))):=by
 unfold gM;rw [List.drop_eq_getElem_cons h];rfl
def hsI (l:List Int) (x:Int):Bool:=l.any fun m=>m==x
theorem hsI_drop (l:List Int) (x:Int) (k:Nat) (h:k<l.length):hsI (l.drop k) x=(l[k]==x || hsI (l.drop (k+1)) x):=by
 unfold hsI;rw [List.drop_eq_getElem_cons h];rfl
def goodVs (pe id:Int) (vs:List Int):Bool:=gV pe vs&&(hsI vs id&& !decide (pe<2*(vs.length:Int)))
def goodMt (pe id n:Int) (mt:List Int):Bool:=decide ((mt.length:Int)=pe)&&(gM n mt&&decide (mt.getD id.toNat 0=n))
def ownT (id te vo:Int):Bool:=decide (vo=id)&&decide (1≤te)
def zI_ (id pe te vo ro n:Int) (vs mt:List Int):Bool:=
 (decide (ro=0)&&(decide ((vs.length:Int)=0)&&decide ((mt.length:Int)=0))) ||
 ((decide (ro=1)&&(ownT id te vo&&goodVs pe id vs&&decide ((mt.length:Int)=0))) ||
 (decide (ro=2)&&(ownT id te vo&&decide ((vs.length:Int)=0)&&goodMt pe id n mt)))
def zn_ (id pe te vo co ro:Int) (log:List En) (vs mt:List Int):Bool:=
 decide (1≤pe)&&decide (pe≤7)&&isP id pe&&decide (0≤te)&&decide (te≤1000)&&(decide (vo= -1) || isP vo pe)&&decide ((log.length:Int)≤60)&&gE te 0 log&&decide (0≤co)&&decide (co≤(log.length:Int))&&zI_ id pe te vo ro log.length vs mt
theorem isPeer_any (i n:Int) (w:World):Calls Tryz.prog 120 #[i,n] w fun e w'=>e= .returned (.bool (isP i n))∧w'=w:=by
 unfold isP;by_cases h:0≤i
 ·by_cases h1:i<n
  ·go_enter Tryz.func120,Tryz.ntmps120;go_wp2;go_ret;exact⟨by simp <;>omega,rfl⟩
  ·go_enter Tryz.func120,Tryz.ntmps120;go_wp2;go_ret;exact⟨by simp <;>omega,rfl⟩
 ·go_enter Tryz.func120,Tryz.ntmps120;go_wp2;go_ret;exact⟨by simp <;>omega,rfl⟩
theorem zu_ (n lo hi:Int) (w:World):Calls Tryz.prog 42 #[n,lo,hi] w fun e w'=>e= .returned (.bool (inB n lo hi))∧w'=w:=by
 unfold inB;by_cases h:lo≤n
 ·by_cases h1:n≤hi
  ·go_enter Tryz.func42,Tryz.ntmps42;go_wp2;go_ret;exact⟨by simp <;>omega,rfl⟩
  ·go_enter Tryz.func42,Tryz.ntmps42;go_wp2;go_ret;exact⟨by simp <;>omega,rfl⟩
 ·go_enter Tryz.func42,Tryz.ntmps42;go_wp2;go_ret;exact⟨by simp <;>omega,rfl⟩
theorem l11Peers_any (n:Int) (w:World):Calls Tryz.prog 39 #[n] w fun e w'=>e= .returned (.bool (inB n 1 7))∧w'=w:=by
 go_enter Tryz.func39,Tryz.ntmps39;go_wp2_with fail;refine (zu_ _ _ _ _).mono ?_;rintro e w1 ⟨rfl,rfl⟩;go_wp2;go_ret;exact⟨rfl,rfl⟩
theorem goodEntry_any (t:Int) (d:ByteArray) (w:World) (hd:d.size≤1048576):Calls Tryz.prog 148 #[.agg #[t,d]] w fun e w'=>e= .returned (.bool (yp_ ⟨t,d⟩))∧Below w.heap.size w w':=by
 unfold yp_;dsimp only;by_cases h:1≤t
 ·by_cases h1:t≤1000000
  ·by_cases h2:(d.size:Int)≤100
   ·go_enter Tryz.func148,Tryz.ntmps148;go_wp2;go_ret;exact⟨by simp <;>omega,zb_ _ _⟩
   ·go_enter Tryz.func148,Tryz.ntmps148;go_wp2;go_ret;exact⟨by simp <;>omega,zb_ _ _⟩
  ·go_enter Tryz.func148,Tryz.ntmps148;go_wp2;go_ret;exact⟨by simp <;>omega,zb_ _ _⟩
 ·go_enter Tryz.func148,Tryz.ntmps148;go_wp2;go_ret;exact⟨by simp <;>omega,zb_ _ _⟩
theorem l3Entry_any (t:Int) (d:ByteArray) (w:World) (hd:d.size≤1048576):Calls Tryz.prog 125 #[.agg #[t,d]] w fun e w'=>e= .returned (.bool (yp_ ⟨t,d⟩))∧Below w.heap.size w w':=by
 have HE:Hid (yp_ ⟨t,d⟩=(inB t 1 1000000&&decide ((d.size:Int)≤100))):=rfl;have K:=fun w=>zu_ t 1 1000000 w;generalize yp_ ⟨t,d⟩=R at*;generalize inB t 1 1000000=b at*;by_cases h2:(d.size:Int)≤100
 all_goals
  go_enter Tryz.func125,Tryz.ntmps125;go_wp2_with fail;refine (K _).mono ?_;rintro e w1 ⟨rfl,rfl⟩
  cases b
  all_goals
   go_wp2;go_ret;exact⟨by rw [HE.out];simp <;>omega,zb_ _ _⟩
theorem areMost_any (id pe te vo co ro many:Int) (vl vv vm:Value) (w:World) (h0:0≤many) (h1:many≤1048576):Calls Tryz.prog 167 #[.agg #[id,pe,te,vo,vl,co,ro,vv,vm],many] w fun e w'=>e= .returned (.bool (decide (pe<2*many)))∧Below w.heap.size w w':=by
 by_cases h:pe<2*many
 all_goals
  go_enter Tryz.func167,Tryz.ntmps167;go_wp2;go_ret;exact⟨by simp <;>omega,zb_ _ _⟩
theorem isOwnTerm_any (id pe te vo co ro:Int) (vl vv vm:Value) (w:World):Calls Tryz.prog 149 #[.agg #[id,pe,te,vo,vl,co,ro,vv,vm]] w fun e w'=>e= .returned (.bool (ownT id te vo))∧Below w.heap.size w w':=by
 unfold ownT;by_cases h:vo=id
 ·by_cases h1:1≤te
  all_goals
   go_enter Tryz.func149,Tryz.ntmps149;go_wp2;go_ret;exact⟨by simp <;>omega,zb_ _ _⟩
 ·go_enter Tryz.func149,Tryz.ntmps149;go_wp2;go_ret;exact⟨by simp <;>omega,zb_ _ _⟩
set_option maxHeartbeats 2000000
theorem index_any (v:Value) (zs:List Int) (x:Int) (w:World) (hv:IL w v zs) (hn:zs.length≤1048576):
  Calls Tryz.prog 176 #[v,x] w fun e w'=>∃r:Int,e= .returned (.int .i64 r)∧decide (0≤r)=hsI zs x∧w'=w:=by
 obtain⟨a,cap,rfl,hc⟩:=hv;go_enter Tryz.func176,Tryz.ntmps176;go_wp2
 go_loopw [8] (fun i wr=>∃k:Nat,k≤zs.length∧i= .int .i64 k∧hsI zs x=hsI (zs.drop k) x∧wr=w) (fun i _=>zs.length-(intOf i).toNat)
 case atStart=>exact⟨0,Nat.zero_le _,rfl,rfl,rfl⟩
 case round=>
  obtain⟨k,hk,rfl,hg,rfl⟩:=hrel;by_cases hlt:k<zs.length
  ·obtain⟨b,off,rfl,hbl,hcell⟩:=hc (by intro e;simp [e] at hlt);have hc0:=hcell k hlt;have HD:Hid (hsI zs x=(zs[k]==x || hsI (zs.drop (k+1)) x)):=by show _=_;rw [hg,hsI_drop zs x k hlt]
   clear hcell hc hg;generalize zs[k]=s at*;by_cases hx:x=s
   ·go_wp2;go_ret;exact⟨_,rfl,by rw [HD.out,hx];simp,rfl⟩
   ·have hx':¬s=x:=fun h=>hx h.symm;go_wp2;go_roundw
    case rel=>exact⟨k+1,by omega,by go_num,by rw [HD.out,beq_false_of_ne hx'];rfl,by first | rfl | trivial⟩
    case measure=>simp [intOf];omega
  ·obtain rfl:k=zs.length:=by omega
   have HD:Hid (hsI zs x=false):=by show _=_;rw [hg,List.drop_length];rfl
   clear hc hg;go_wp2;go_ret;exact⟨_,rfl,by rw [HD.out];rfl,rfl⟩
theorem contains_any (v:Value) (zs:List Int) (x:Int) (w:World) (hv:IL w v zs) (hn:zs.length≤1048576):
  Calls Tryz.prog 166 #[v,x] w fun e w'=>e= .returned (.bool (hsI zs x))∧w'=w:=by
 have K:=index_any v zs x w hv hn;generalize hsI zs x=R at*;obtain⟨a,cap,rfl,hc⟩:=hv;go_enter Tryz.func166,Tryz.ntmps166;go_wp2_with fail;refine K.mono ?_;rintro e w1 ⟨r,rfl,hr,rfl⟩;clear K hc;by_cases h:0≤r
 ·have HR:Hid (R=true):=by show _=_;rw [←hr];simp [h]
  clear hr;go_wp2;go_ret;exact⟨by rw [HR.out];simp <;>omega,rfl⟩
 ·have HR:Hid (R=false):=by show _=_;rw [←hr];simp;omega
  clear hr;go_wp2;go_ret;exact⟨by rw [HR.out];simp <;>omega,rfl⟩
theorem l10Has_any (v:Value) (zs:List Int) (x:Int) (w:World) (hv:IL w v zs) (hn:zs.length≤1048576):
  Calls Tryz.prog 76 #[v,x] w fun e w'=>e= .returned (.bool (hsI zs x))∧w'=w:=by
 obtain⟨a,cap,rfl,hc⟩:=hv;go_enter Tryz.func76,Tryz.ntmps76;go_wp2
 go_loopw [9] (fun i wr=>∃k:Nat,k≤zs.length∧i= .int .i64 k∧hsI zs x=hsI (zs.drop k) x∧wr=w) (fun i _=>zs.length-(intOf i).toNat)
 case atStart=>exact⟨0,Nat.zero_le _,rfl,rfl,rfl⟩
 case round=>
  obtain⟨k,hk,rfl,hg,rfl⟩:=hrel;by_cases hlt:k<zs.length
  ·obtain⟨b,off,rfl,hbl,hcell⟩:=hc (by intro e;simp [e] at hlt);have hc0:=hcell k hlt;have HD:Hid (hsI zs x=(zs[k]==x || hsI (zs.drop (k+1)) x)):=by show _=_;rw [hg,hsI_drop zs x k hlt]
   clear hcell hc hg;generalize zs[k]=s at*;by_cases hx:s=x
   ·go_wp2;go_ret;exact⟨by rw [HD.out,hx];simp,rfl⟩
   ·go_wp2;go_roundw
    case rel=>exact⟨k+1,by omega,by go_num,by rw [HD.out,beq_false_of_ne hx];rfl,by first | rfl | trivial⟩
    case measure=>simp [intOf];omega
  ·obtain rfl:k=zs.length:=by omega
   have HD:Hid (hsI zs x=false):=by show _=_;rw [hg,List.drop_length];rfl
   clear hc hg;go_wp2;go_ret;exact⟨by rw [HD.out];try rfl,by first | rfl | trivial⟩
theorem Box.b2 {w:World} {b:Nat} {v0 v1:Value} (h:Box w b [v0,v1]):b<w.heap.size∧w.cell? ⟨b,0,none⟩=some v0∧w.cell? ⟨b,1,none⟩=some v1:=⟨h.1,h.2.1 0 _ rfl,h.2.1 1 _ rfl⟩
theorem goodEntries_any (v:Value) (l:List En) (T:Int) (w:World) (hv:ER w v l) (hn:l.length≤1048576) (hs:∀i (h:i<l.length),l[i].d.size≤1048576):
  Calls Tryz.prog 121 #[v,T] w fun e w'=>e= .returned (.bool (gE T 0 l))∧Below w.heap.size w w':=by
 obtain⟨a,cap,rfl,hc⟩:=hv;go_enter Tryz.func121,Tryz.ntmps121;go_wp2
 go_loopw [5,10] (fun p i wr=>∃(k:Nat) (z:Int),k≤l.length∧i= .int .i64 k∧p= .int .i64 z∧gE T 0 l=gE T z (l.drop k)∧Below w.heap.size w wr) (fun _ i _=>l.length-(intOf i).toNat)
 case atStart=>exact⟨0,0,Nat.zero_le _,rfl,rfl,rfl,Below.refl _ _⟩
 case round=>
  obtain⟨k,z,hk,rfl,rfl,hg,hb⟩:=hrel;by_cases hlt:k<l.length
  ·obtain⟨b,off,rfl,hbl,hcell⟩:=hc (by intro e;simp [e] at hlt);have hc0:=(hb.cell (p:=⟨b,off+k*2,none⟩) hbl).trans (hcell k hlt).1;have hc1:=(hb.cell (p:=⟨b,off+k*2+1,none⟩) hbl).trans (hcell k hlt).2;have HD:Hid (gE T 0 l=(yp_ l[k]&&decide (z≤l[k].t)&&decide (l[k].t≤T)&&gE T l[k].t (l.drop (k+1)))):=by show _=_;rw [hg,gE_drop T z l k hlt]
   have hsk:=hs k hlt;clear hcell hc hg hs;generalize l[k]=s at*;obtain⟨st,sd⟩:=s;dsimp only at hc0 hc1 HD hsk;have KE:=fun w=>goodEntry_any st sd w hsk;have hz:=hb.size;have hB0:=hb.alloc hz (.cells #[st,sd] 44);have X0:=Box.new wr #[st,sd] 44;generalize yp_ ⟨st,sd⟩=ge at*;go_wp2_with fail;refine (KE _).mono ?_;rintro e w1 ⟨rfl,hb1⟩;have hB1:=hB0.trans (hb1.mono hB0.size);have X1:=X0.below hb1;obtain⟨hx0,x0,x1⟩:=X1.b2;clear KE hB0 X0 hb1 hb
   cases ge with
   | false=>
    go_wp2;go_ret;exact⟨by rw [HD.out];rfl,hB1⟩
   | true=>
    by_cases h1:st<z
    ·go_wp2;go_ret;exact⟨by rw [HD.out];simp <;>omega,hB1⟩
    ·by_cases h2:T<st
     ·go_wp2;go_ret;exact⟨by rw [HD.out];simp <;>omega,hB1⟩
     ·have HD2:Hid (gE T 0 l=gE T st (l.drop (k+1))):=by
       show _=_;rw [HD.out,decide_eq_true (show z≤st from by omega),decide_eq_true (show st≤T from by omega)];rfl
      clear HD;go_wp2;go_roundw
      case rel=>exact⟨k+1,st,by omega,by go_num,rfl,HD2.out,hB1⟩
      case measure=>simp [intOf];omega
  ·obtain rfl:k=l.length:=by omega
   have HD:Hid (gE T 0 l=true):=by show _=_;rw [hg,List.drop_length];rfl
   clear hc hg;go_wp2;go_ret;exact⟨by rw [HD.out];try rfl,hb⟩
theorem l11Entries_any (v:Value) (l:List En) (T:Int) (w:World) (hv:ER w v l) (hn:l.length≤1048576) (hs:∀i (h:i<l.length),l[i].d.size≤1048576):
  Calls Tryz.prog 75 #[v,(1:Int),T] w fun e w'=>e= .returned (.bool (gE T 0 l&&decide ((l.length:Int)≤60)))∧Below w.heap.size w w':=by
 rw [←gE_one];obtain⟨a,cap,rfl,hc⟩:=hv;go_enter Tryz.func75,Tryz.ntmps75;go_wp2
 go_loopw [1,11] (fun p i wr=>∃(k:Nat) (z:Int),k≤l.length∧i= .int .i64 k∧p= .int .i64 z∧gE T 1 l=gE T z (l.drop k)∧Below w.heap.size w wr) (fun _ i _=>l.length-(intOf i).toNat)
 case atStart=>exact⟨0,1,Nat.zero_le _,rfl,rfl,rfl,Below.refl _ _⟩
 case round=>
  obtain⟨k,z,hk,rfl,rfl,hg,hb⟩:=hrel;by_cases hlt:k<l.length
  ·obtain⟨b,off,rfl,hbl,hcell⟩:=hc (by intro e;simp [e] at hlt);have hc0:=(hb.cell (p:=⟨b,off+k*2,none⟩) hbl).trans (hcell k hlt).1;have hc1:=(hb.cell (p:=⟨b,off+k*2+1,none⟩) hbl).trans (hcell k hlt).2;have HD:Hid (gE T 1 l=(yp_ l[k]&&inB l[k].t z T&&gE T l[k].t (l.drop (k+1)))):=by show _=_;rw [hg,gE_drop T z l k hlt];unfold inB;simp only [Bool.and_assoc]
   have hsk:=hs k hlt;clear hcell hc hg hs;generalize l[k]=s at*;obtain⟨st,sd⟩:=s;dsimp only at hc0 hc1 HD hsk;have KE:=fun w=>l3Entry_any st sd w hsk;have KI:=fun w=>zu_ st z T w;have hz:=hb.size;have hB0:=hb.alloc hz (.cells #[st,sd] 44);have X0:=Box.new wr #[st,sd] 44;generalize yp_ ⟨st,sd⟩=ge at*;generalize inB st z T=gi at*;go_wp2_with fail;refine (KE _).mono ?_;rintro e w1 ⟨rfl,hb1⟩;have hB1:=hB0.trans (hb1.mono hB0.size);have X1:=X0.below hb1;obtain⟨hx0,x0,x1⟩:=X1.b2;clear KE hB0 X0 hb1 hb
   cases ge with
   | false=>
    go_wp2;go_ret;exact⟨by rw [HD.out];rfl,hB1⟩
   | true=>
    go_wp2_with fail;refine (KI _).mono ?_;rintro e w2 ⟨rfl,rfl⟩;clear KI
    cases gi with
    | false=>
     go_wp2;go_ret;exact⟨by rw [HD.out];rfl,hB1⟩
    | true=>
     go_wp2;go_roundw
     case rel=>exact⟨k+1,st,by omega,by go_num,rfl,HD.out,hB1⟩
     case measure=>simp [intOf];omega
  ·obtain rfl:k=l.length:=by omega
   have HD:Hid (gE T 1 l=true):=by show _=_;rw [hg,List.drop_length];rfl
   clear hc hg;go_wp2;go_ret;exact⟨by rw [HD.out];simp,hb⟩
end Go.Proofs.YtapfhhmimkkhnaaGreat
