/-
  A region that draws its order and holds calls that only make new memory and answer one value, whatever the world: one walk, in the order of the text (the library's theorem on quiet regions, at the class 'as it was below block B').
  spec.l2Var, spec.VarBytes, impl.VarBytes: a number's bytes.
  What a call that writes into some blocks alone leaves; a row that is marked, and a row that is held against its marks.
  NewSkip: both; slices of numbers: eqIntS, markIntS, heldIntS; the helpers of a list without towers.
  laws.markText; slices of texts: eqStringS, markStringS, heldStringS.
  Entries in a row: rows of two cells; szEntryS, toEntryS, eqEntryS.
  Agreement, plainly: logs that begin alike, majorities, and what every leader has (Ongaro and Ousterhout).
-/
import Derived.Test.YtapfhhmimkkhnaaAToB
import Derived.Deep.QuietTactic
import Derived.BigQuiet
import Derived.Test.YtapfhhmimkkhnaaProg
import Derived.WalkLawsBesides
import Derived.OwnWalk
import Derived.WalkMore
import Derived.Laws.IdiomStrings
import Derived.Laws.Concat
import Derived.ScopeJumps
import Derived.Tactics
import Derived.Deep.RegionHeld3
namespace Go.Proofs.Ytapfhhmimkkhnaa
open Go.RowKit
structure WC (B:Nat) (W:World) where
 w:World
 ok:Below B W w
theorem wp_region_calm {P:Program} {B:Nat} {W:World} {id:Nat} {Q:Exit→Act→World→Prop} {a:Act} {w:World} {l:List Oper} (hm:P.follows .mixedOrders=true) (hB:Region.lexB .any l.toArray=true) (hw:Below B W w)
  (h:wpQuiet P l.toArray (fun w'=>∃n:WC B W,w'=n.w) (fun a'=>∀w',(∃n:WC B W,w'=n.w)→Q .normal a' w') l a):(Code.region id l.toArray true).wp P Q a w:=
 wp_region_quiet (C:=fun w'=>∃n:WC B W,w'=n.w) hm hB ⟨⟨w.drew,hw.drew⟩,rfl⟩ (by simpa using h)
theorem calm_of {P:Program} {B:Nat} {W:World} {f:FuncId} {args:Array Value} {x:WC B W} {v:Value}
  (h:Calls P f args x.w fun e w''=>e= .returned v∧Below B W w''):Calls P f args x.w fun e w''=>e= .returned v∧∃m:WC B W,w''=m.w:=
 h.mono fun _ w'' ⟨he,hb⟩=>⟨he,⟨w'',hb⟩,rfl⟩
theorem calm_of_below {P:Program} {B:Nat} {W:World} {f:FuncId} {args:Array Value} {x:WC B W} {v:Value} (hB:B≤W.heap.size)
  (h:Calls P f args x.w fun e w''=>e= .returned v∧Below x.w.heap.size x.w w''):Calls P f args x.w fun e w''=>e= .returned v∧∃m:WC B W,w''=m.w:=
 calm_of (h.mono fun _ _ ⟨he,hb⟩=>⟨he,x.ok.trans (hb.mono (Nat.le_trans hB x.ok.size))⟩)
end Go.Proofs.Ytapfhhmimkkhnaa
namespace Go.Proofs.Ytapfhhmimkkhnaa
open Go.RowKit
set_option maxRecDepth 100000
set_option linter.unusedVariables false
theorem Try.info5:(Try.prog.info? 5).map (fun i=>(i.zero,i.size,i.bytes))=some (some (.int .u8 0),1,1):=by kernel_rfl
theorem ze_ {w:World} {base:Nat} {e:TypeId} {size:Nat} {v:Value} {n:Nat} {xs:List Value} (h:w.ownsRow base e size v n xs):∀g,v.ownBlock=some g→base≤g:=by
 intro g hg;rcases h.2 with⟨rfl,_⟩ | ⟨g',cap,cur,rfl,hb,_⟩
 ·simp [Value.ownBlock] at hg
 ·simp only [Value.ownBlock,Option.some.injEq] at hg;omega
theorem conv_back {w:World} {base cap:Nat} {g:Nat} {l:List UInt8} (h:w.ownsRow base 5 1 (.slice (some ⟨g,0,none⟩) l.length cap) l.length (bcs l)):
  (convert 22 9 (.slice (some ⟨g,0,none⟩) l.length cap)).run Try.prog w= .ok (.string ⟨l.toArray⟩) w:=by
 have:=run_convert_bytes_back (P:=Try.prog) w 22 9 5 ⟨g,0,none⟩ cap l Try.underlying22 Try.underlying5 Try.underlying9 (by
  intro j hj;rw [show (⟨g,0,none⟩:Addr).add j=⟨g,j,none⟩ from by simp [Addr.add];omega,h.cellAt j (by omega)];simp [bcs,hj])
 simpa using this
end Go.Proofs.Ytapfhhmimkkhnaa
namespace Go.Proofs.Ytapfhhmimkkhnaa
open Go.RowKit
set_option linter.unusedVariables false
structure Chg (S:Nat→Prop) (w w':World):Prop where
 os:w'.os=w.os
 tape:w'.tape=w.tape
 output:w'.output=w.output
 size:w.heap.size≤w'.heap.size
 block:∀k,k<w.heap.size→¬S k→w'.heap[k]? =w.heap[k]?
theorem Chg.refl (S:Nat→Prop) (w:World):Chg S w w:=⟨rfl,rfl,rfl,Nat.le_refl _,fun _ _ _=>rfl⟩
theorem Chg.of_below {S:Nat→Prop} {w w':World} (h:Below w.heap.size w w'):Chg S w w':=⟨h.os,h.tape,h.output,h.size,fun k hk _=>h.block k hk⟩
theorem Chg.trans {S:Nat→Prop} {a b c:World} (h:Chg S a b) (k:Chg S b c):Chg S a c:=
 ⟨k.os.trans h.os,k.tape.trans h.tape,k.output.trans h.output,Nat.le_trans h.size k.size,fun j hj hs=>(k.block j (Nat.lt_of_lt_of_le hj h.size) hs).trans (h.block j hj hs)⟩
theorem Chg.mono {S T:Nat→Prop} {a b:World} (h:Chg S a b) (hst:∀k,S k→T k):Chg T a b:=⟨h.os,h.tape,h.output,h.size,fun k hk ht=>h.block k hk fun hs=>ht (hst k hs)⟩
theorem Chg.setCell {S:Nat→Prop} {a w:World} (h:Chg S a w) {p:Addr} (hp:S p.block) (u:Value):Chg S a (w.setCell p u):=
 ⟨h.os,h.tape,h.output,by simpa using h.size,fun k hk hs=>(Below.heap_setCell w p u k (fun e=>hs (e ▸ hp))).trans (h.block k hk hs)⟩
theorem Chg.below {S:Nat→Prop} {w w':World} (h:Chg S w w') {B:Nat} (hB:B≤w.heap.size) (hs:∀k,S k→B≤k):Below B w w':=
 ⟨h.os,h.tape,h.output,h.size,fun k hk=>h.block k (Nat.lt_of_lt_of_le hk hB) fun hk'=>by have:=hs k hk';omega⟩
theorem Chg.owns {S:Nat→Prop} {w w':World} (h:Chg S w w') {base:Nat} {e:TypeId} {size:Nat} {v:Value} {n:Nat} {xs:List Value} (ho:w.ownsRow base e size v n xs) (hs:∀g,v.ownBlock=some g→¬S g):w'.ownsRow base e size v n xs:=by
 obtain⟨hl,ho⟩:=ho;refine⟨hl,?_⟩;rcases ho with ho | ⟨g,cap,cur,hv,hbg,hh,ho⟩
 ·exact .inl ho
 ·refine .inr ⟨g,cap,cur,hv,hbg,?_,ho⟩;rw [h.block g (Array.getElem?_eq_some_iff.1 hh).1 (hs g (by rw [hv];rfl))];exact hh
theorem Chg.box {S:Nat→Prop} {w w':World} (h:Chg S w w') {b:Nat} {vs:List Value} (hx:Box w b vs) (hs:¬S b):Box w' b vs:=by
 have hb:=h.block b hx.1 hs;exact⟨Nat.lt_of_lt_of_le hx.1 h.size,fun j v hv=>(World.cell?_of_block (w:=w) (a:=⟨b,j,none⟩) hb).trans (hx.2.1 j v hv),fun j=>(World.frozen?_of_block (w:=w) (a:=⟨b,j,none⟩) hb).trans (hx.2.2 j)⟩
theorem Chg.b1 {w a:World} {b B:Nat} (h:Chg (fun k=>k=b) w a) (hs:B≤w.heap.size) (hb:B≤b):Below B w a:=h.below hs fun k hk=>by rw [hk];exact hb
end Go.Proofs.Ytapfhhmimkkhnaa
namespace Go.Proofs.Ytapfhhmimkkhnaa
open Go.RowKit
set_option linter.unusedVariables false
set_option maxRecDepth 100000
theorem Box.under {w w':World} {b B:Nat} {vs:List Value} (h:Box w b vs) (hb:Below B w w') (hB:b<B):Box w' b vs:=
 ⟨Nat.lt_of_lt_of_le h.1 hb.size,fun j v hv=>(hb.cell (p:=⟨b,j,none⟩) hB).trans (h.2.1 j v hv),fun j=>(hb.frozen (p:=⟨b,j,none⟩) hB).trans (h.2.2 j)⟩
def IL (w:World) (v:Value) (zs:List Int):Prop:=
 ∃a cap,v= .slice a zs.length cap∧(zs≠ []→∃b off,a=some ⟨b,off,none⟩∧b<w.heap.size∧∀i (h:i<zs.length),w.cell? ⟨b,off+i,none⟩=some (.int .i64 zs[i]))
theorem IL.below {w w':World} {v:Value} {zs:List Int} (h:IL w v zs) (hb:Below w.heap.size w w'):IL w' v zs:=by
 obtain⟨a,cap,hv,hc⟩:=h;refine⟨a,cap,hv,fun hl=> ?_⟩;obtain⟨b,off,ha,hbl,hcell⟩:=hc hl;exact⟨b,off,ha,Nat.lt_of_lt_of_le hbl hb.size,fun i hi=>(hb.cell (p:=⟨b,off+i,none⟩) hbl).trans (hcell i hi)⟩
theorem zY_ {w:World} {base n:Nat} {v:Value} {zs:List Int} (h:w.ownsRow base 3 1 v n (zs.map (.int .i64))) (hn:n=zs.length):IL w v zs:=by
 have h':=h;obtain⟨hl,h⟩:=h;rcases h with⟨rfl,h0⟩ | ⟨g,cap,cur,rfl,hbg,hh,hcap,hm,hsz,htk⟩
 ·refine⟨none,0,by rw [←hn,h0],fun hne=>absurd (List.length_eq_zero_iff.1 (by omega)) hne⟩
 ·refine⟨_,cap,by rw [hn],fun _=>⟨g,0,rfl,(Array.getElem?_eq_some_iff.1 hh).1,fun i hi=> ?_⟩⟩;rw [Nat.zero_add,h'.cellAt i (by omega)];simp [hi]
def mkI (k:Int) (n:Nat):List Value:=(List.range n).map fun i:Nat=> .int .i64 (k+(i:Int))
end Go.Proofs.Ytapfhhmimkkhnaa
namespace Go.Proofs.Ytapfhhmimkkhnaa
open Go.RowKit
set_option maxRecDepth 100000
set_option linter.unusedVariables false
def mkD:Nat→Nat→List UInt8→List UInt8
 | 0,_,acc=>acc
 | f+1,k,acc=>if k=0 then acc else mkD f (k / 10) (UInt8.ofNat (48+k % 10)::acc)
def mkT (k:Int):ByteArray:=if k≤0 then⟨#[109,48]⟩ else⟨(109::mkD 20 k.toNat []).toArray⟩
def SL (w:World) (v:Value) (l:List ByteArray):Prop:=
 ∃a cap,v= .slice a l.length cap∧(l≠ []→∃b off,a=some ⟨b,off,none⟩∧b<w.heap.size∧∀i (h:i<l.length),w.cell? ⟨b,off+i,none⟩=some (.string l[i]))
end Go.Proofs.Ytapfhhmimkkhnaa
namespace Go.Proofs.Ytapfhhmimkkhnaa
open Go.RowKit
set_option linter.unusedVariables false
set_option maxRecDepth 100000
structure En where
 t:Int
 d:ByteArray
def En.zero:En:=⟨0,⟨#[]⟩⟩
def zE_:List En→List Value
 | []=> []
 | s::r=> .int .i64 s.t:: .string s.d::zE_ r
theorem zU_ (l:List En):(zE_ l).length=l.length*2:=by
 induction l with
 | nil=>rfl
 | cons x r ih=>simp only [zE_,List.length_cons,ih];omega
theorem flat2_append (l m:List En):zE_ (l++m)=zE_ l++zE_ m:=by
 induction l with
 | nil=>rfl
 | cons x r ih=>simp only [List.cons_append,zE_,ih]
theorem flat2_get (l:List En) (i:Nat) (h:i<l.length):(zE_ l)[i*2]? =some (.int .i64 l[i].t)∧(zE_ l)[i*2+1]? =some (.string l[i].d):=by
 induction l generalizing i with
 | nil=>simp at h
 | cons x r ih=>
  cases i with
  | zero=>exact⟨rfl,rfl⟩
  | succ i=>
   have:=ih i (by simpa using h);rw [show (i+1)*2=i*2+1+1 from by omega,show i*2+1+1+1=(i*2+1)+1+1 from by omega];simp only [zE_,List.getElem?_cons_succ,List.getElem_cons_succ];exact this
def ER (w:World) (v:Value) (l:List En):Prop:=
 ∃a cap,v= .slice a l.length cap∧(l≠ []→∃b off,a=some ⟨b,off,none⟩∧b<w.heap.size∧
  ∀i (h:i<l.length),w.cell? ⟨b,off+i*2,none⟩=some (.int .i64 l[i].t)∧w.cell? ⟨b,off+i*2+1,none⟩=some (.string l[i].d))
theorem ER.below {w w':World} {v:Value} {l:List En} (h:ER w v l) (hb:Below w.heap.size w w'):ER w' v l:=by
 obtain⟨a,cap,hv,hc⟩:=h;refine⟨a,cap,hv,fun hl=> ?_⟩;obtain⟨b,off,ha,hbl,hcell⟩:=hc hl;refine⟨b,off,ha,Nat.lt_of_lt_of_le hbl hb.size,fun i hi=> ?_⟩;obtain⟨c0,c1⟩:=hcell i hi;exact⟨(hb.cell (p:=⟨b,off+i*2,none⟩) hbl).trans c0,(hb.cell (p:=⟨b,off+i*2+1,none⟩) hbl).trans c1⟩
theorem zO_ {w:World} {base n:Nat} {e:TypeId} {v:Value} {l:List En} (h:w.ownsRow base e 2 v n (zE_ l)) (hn:n=l.length):ER w v l:=by
 subst hn;have h':=h;obtain⟨hl,h⟩:=h;rcases h with⟨rfl,h0⟩ | ⟨g,cap,cur,rfl,hbg,hh,hcap,hm,hsz,htk⟩
 ·exact⟨none,0,by rw [h0],fun hne=>absurd (List.length_eq_zero_iff.1 h0) hne⟩
 ·refine⟨_,cap,rfl,fun _=>⟨g,0,rfl,(Array.getElem?_eq_some_iff.1 hh).1,fun i hi=> ?_⟩⟩;obtain⟨g0,g1⟩:=flat2_get l i hi;rw [Nat.zero_add];exact⟨by rw [h'.cellAt (i*2) (by omega),g0],by rw [h'.cellAt (i*2+1) (by omega),g1]⟩
theorem Try.info34:(Try.prog.info? 34).map (fun i=>(i.zero,i.size,i.bytes))=some (some (.agg #[(0:Int),.string ⟨#[]⟩]),2,24):=by kernel_rfl
end Go.Proofs.Ytapfhhmimkkhnaa
namespace Go.Proofs.Ytapfhhmimkkhnaa
set_option linter.unusedVariables false
def Has (P Q:List En) (x:Nat):Prop:=x≤P.length∧x≤Q.length∧P.take x=Q.take x
theorem Has.refl (P:List En) (x:Nat) (h:x≤P.length):Has P P x:=⟨h,h,rfl⟩
theorem Has.zero (P Q:List En):Has P Q 0:=⟨Nat.zero_le _,Nat.zero_le _,by simp⟩
theorem Has.symm {P Q:List En} {x:Nat} (h:Has P Q x):Has Q P x:=⟨h.2.1,h.1,h.2.2.symm⟩
theorem Has.trans {P Q R:List En} {x:Nat} (h:Has P Q x) (k:Has Q R x):Has P R x:=⟨h.1,k.2.1,h.2.2.trans k.2.2⟩
theorem Has.mono {P Q:List En} {x y:Nat} (h:Has P Q x) (hy:y≤x):Has P Q y:=by
 refine⟨Nat.le_trans hy h.1,Nat.le_trans hy h.2.1,?_⟩;have:=congrArg (List.take y) h.2.2
 rwa [List.take_take,List.take_take,Nat.min_eq_left hy] at this
theorem Has.at {P Q:List En} {x i:Nat} (h:Has P Q x) (hi:i<x):P[i]'(Nat.lt_of_lt_of_le hi h.1)=Q[i]'(Nat.lt_of_lt_of_le hi h.2.1):=by
 have:=congrArg (fun l=>l[i]?) h.2.2;have e1:i<P.length:=Nat.lt_of_lt_of_le hi h.1;have e2:i<Q.length:=Nat.lt_of_lt_of_le hi h.2.1;simpa [List.getElem?_take,hi,e1,e2] using this
theorem has_take (P:List En) (x y:Nat) (hx:x≤y) (hy:y≤P.length):Has (P.take y) P x:=by
 refine⟨by simp;omega,by omega,?_⟩;rw [List.take_take,Nat.min_eq_left hx]
theorem has_grown {P Q:List En} {x:Nat} (h:Has P Q x) (r:List En):Has P (Q++r) x:=by
 refine⟨h.1,by simp;have:=h.2.1;omega,?_⟩;rw [List.take_append_of_le_length h.2.1];exact h.2.2
def Srt (P:List En):Prop:=∀i j (hi:i<P.length) (hj:j<P.length),i≤j→P[i].t≤P[j].t
def Ok (LL:Int→List En) (P:List En):Prop:=∀i (h:i<P.length),Has P (LL P[i].t) (i+1)
theorem matching {LL:Int→List En} {P Q:List En} (hP:Ok LL P) (hQ:Ok LL Q) (i:Nat) (h1:i<P.length) (h2:i<Q.length) (e:P[i].t=Q[i].t):Has P Q (i+1):=by
 have a:=hP i h1;have b:=hQ i h2;rw [e] at a;exact a.trans b.symm
def lastT (P:List En):Int:=if h:0<P.length then P[P.length-1].t else 0
theorem lastT_pos {P:List En} (h:0<P.length):lastT P=(P[P.length-1]'(by omega)).t:=by unfold lastT;rw [dif_pos h]
def UpTo (P Q:List En):Prop:=lastT Q<lastT P∨(lastT Q=lastT P∧Q.length≤P.length)
open Classical in
noncomputable def cnt (p:Nat→Prop):Nat→Nat
 | 0=>0
 | n+1=>cnt p n+(if p n then 1 else 0)
theorem cnt_mono {p q:Nat→Prop} (n:Nat) (h:∀i,i<n→p i→q i):cnt p n≤cnt q n:=by
 induction n with
 | zero=>simp [cnt]
 | succ n ih=>
  have:=ih fun i hi=>h i (by omega);simp only [cnt];by_cases hp:p n
  ·rw [if_pos hp,if_pos (h n (by omega) hp)];omega
  ·rw [if_neg hp];omega
theorem cnt_disj {p q:Nat→Prop} (n:Nat) (h:∀i,i<n→¬(p i∧q i)):cnt p n+cnt q n≤n:=by
 induction n with
 | zero=>simp [cnt]
 | succ n ih=>
  have:=ih fun i hi=>h i (by omega);simp only [cnt];by_cases hp:p n
  ·have hq:¬q n:=fun hq=>h n (by omega) ⟨hp,hq⟩;rw [if_pos hp,if_neg hq];omega
  ·rw [if_neg hp];split <;>omega
def Maj (n:Nat) (p:Nat→Prop):Prop:=n<2*cnt p n
theorem Maj.mono {n:Nat} {p q:Nat→Prop} (h:Maj n p) (hi:∀i,i<n→p i→q i):Maj n q:=by have:=cnt_mono n hi;unfold Maj at*;omega
theorem Maj.meet {n:Nat} {p q:Nat→Prop} (h:Maj n p) (k:Maj n q):∃i,i<n∧p i∧q i:=by
 apply Classical.byContradiction;intro hn;have:=cnt_disj n (p:=p) (q:=q) fun i hi hh=>hn ⟨i,hi,hh.1,hh.2⟩;unfold Maj at*;omega
structure Gh where
 el:Int→Prop
 E:Int→List En
 LL:Int→List En
 ack:Nat→Int→Nat
def zF_ (n:Nat) (g:Gh) (tm:Nat→Int):Prop:=
 ∀T U x,T<U→g.el U→∀h:x<(g.LL T).length,(g.LL T)[x].t=T→Has (g.E U) (g.LL T) (x+1)∨Maj n fun j=>T<tm j∧g.ack j T<x+1
def Kept (g:Gh) (P:List En) (j:Nat) (B:Int):Prop:=
 ∀T x,T<B→∀h:x<(g.LL T).length,(g.LL T)[x].t=T→x<g.ack j T→Has P (g.LL T) (x+1)∨∃U,T<U∧U<B∧g.el U∧¬Has (g.E U) (g.LL T) (x+1)
theorem elected {n:Nat} {g:Gh} {tm:Nat→Int} (W:Int) (P:List En) (S:Nat→List En) (vt:Nat→Prop)
  (hC:zF_ n g tm) (hOkP:Ok g.LL P) (hSP:Srt P) (hPW:∀i (h:i<P.length),P[i].t<W)
  (hPel:∀i (h:i<P.length),g.el P[i].t) (hEL:∀U,g.el U→Has (g.E U) (g.LL U) (g.E U).length)
  (hSrtL:∀U,Srt (g.LL U)) (hpos:∀T x (h:x<(g.LL T).length),(g.LL T)[x].t=T→0<T)
  (hmaj:Maj n vt) (hvt:∀j,j<n→vt j→W≤tm j∧Ok g.LL (S j)∧Srt (S j)∧UpTo P (S j)∧Kept g (S j) j W):
  ∀T x,T<W→∀h:x<(g.LL T).length,(g.LL T)[x].t=T→Has P (g.LL T) (x+1)∨Maj n fun j=>T<tm j∧g.ack j T<x+1:=by
 intro T x hTW hx hxT;by_cases hB:∃U,T<U∧U<W∧g.el U∧¬Has (g.E U) (g.LL T) (x+1)
 ·obtain⟨U,h1,h2,h3,h4⟩:=hB;rcases hC T U x h1 h3 hx hxT with h | h
  ·exact absurd h h4
  ·exact .inr h
 by_cases hA:∃j,j<n∧vt j∧x<g.ack j T;rotate_left
 ·refine .inr (hmaj.mono fun j hj hv=> ?_);have h1:=(hvt j hj hv).1;have h2:¬x<g.ack j T:=fun h=>hA ⟨j,hj,hv,h⟩;exact⟨by omega,by omega⟩
 obtain⟨j,hj,hv,hak⟩:=hA;obtain⟨h1,hOS,hSS,hup,hkept⟩:=hvt j hj hv;have hS:Has (S j) (g.LL T) (x+1):=by
  rcases hkept T x hTW hx hxT hak with h | h
  ·exact h
  ·exact absurd h hB
 left
 have hSl:=hS.1;have hlS:0<(S j).length:=by omega
 have hxS:(S j)[x]'(by omega)=(g.LL T)[x]:=hS.at (by omega);have hTl:T≤lastT (S j):=by
  rw [lastT_pos hlS];have:=hSS x ((S j).length-1) (by omega) (by omega) (by omega);rw [hxS,hxT] at this;exact this
 rcases hup with hlt | ⟨heq,hle⟩
 ·-- the elected one's last term is greater
  have hT0:=hpos T x hx hxT;have hlP:0<P.length:=by
   apply Classical.byContradiction;intro h0;have e:lastT P=0:=by unfold lastT;rw [dif_neg h0]
   omega
  have hp:P.length-1<P.length:=by omega
  rw [lastT_pos hlP] at hlt;have hU:=hPW _ hp;have hel:=hPel _ hp;have hO:=hOkP _ hp;rw [show P.length-1+1=P.length from by omega] at hO;obtain⟨U,hUe⟩:∃U,(P[P.length-1]'hp).t=U:=⟨_,rfl⟩;rw [hUe] at hlt hU hel hO;have hE:Has (g.E U) (g.LL T) (x+1):=by
   apply Classical.byContradiction;intro h;exact hB ⟨U,by omega,hU,hel,h⟩
  have hLU:Has (g.LL U) (g.LL T) (x+1):=((hEL U hel).mono hE.1).symm.trans hE;have hlen:x+1≤P.length:=by
   apply Classical.byContradiction;intro h;have e1:P[P.length-1]=(g.LL T)[P.length-1]'(by omega):=(hO.at hp).trans (hLU.at (by omega));have e2:=hSrtL T (P.length-1) x (by omega) hx (by omega);have e4:=congrArg En.t e1;omega
  exact (hO.mono hlen).trans hLU
 ·have hlP:0<P.length:=by omega
  have hO:=hOkP (P.length-1) (by omega);have hQ:=hOS ((S j).length-1) (by omega);rw [lastT_pos hlP,lastT_pos hlS] at heq;rw [show P.length-1+1=P.length from by omega] at hO;rw [show (S j).length-1+1=(S j).length from by omega,heq] at hQ;exact (((hO.mono hle).trans hQ.symm).mono hSl).trans hS
end Go.Proofs.Ytapfhhmimkkhnaa
