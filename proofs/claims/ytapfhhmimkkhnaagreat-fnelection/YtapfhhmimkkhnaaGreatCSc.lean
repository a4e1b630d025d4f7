/-
  Leads compared, and sorted.
-/
import Derived.Test.YtapfhhmimkkhnaaGreatCSb
import Derived.Deep.RegionHeld3
import Derived.Shelf.SlSortCmp.WholeK
import Derived.Shelf.Lay
import Derived.Shelf.SlGeneric
import Derived.Ground.SlsfProg
import Derived.Sort.OwnSorted
namespace Go.Proofs
open Go.Shelf Go.RowKit Go.Lib Go.Sort
namespace YtapfhhmimkkhnaaGreat
open Go.Maps
set_option linter.unusedVariables false
set_option maxRecDepth 100000
theorem cmpLaysL (blk off size:Nat) (w:World):CmpLays Tryz.prog 35 #[] encL 2 cmpL blk off size w:=fun _ _ _ _ x y=>compareLeads_any x y _
theorem flatK_flatL (l:List Ld):(flatK encL 2 l.toArray).toList=zQ_ l:=by
 apply List.ext_getElem?;intro t;by_cases ht:t<l.length*2
 ·have h1:(flatK encL 2 l.toArray)[t]! =(encL l.toArray[t / 2]!)[t % 2]! :=get_flatK _ _ _ _ (by simpa using ht);have hsz:t<(flatK encL 2 l.toArray).size:=by simpa using ht
  rw [getElem!_pos _ t hsz] at h1;rw [Array.getElem?_toList,Array.getElem?_eq_getElem hsz,h1];have hd:t / 2<l.length:=by omega
  have e1:l.toArray[t / 2]! =l[t / 2]:=by rw [getElem!_pos _ _ (by simpa using hd)];simp
  rw [e1];obtain⟨g0,g1⟩:=flatL_get l (t / 2) hd;obtain h | h:t % 2=0∨t % 2=1:=by omega
  ·have e2:t=t / 2*2:=by omega
   rw [←e2] at g0;rw [g0,h];rfl
  ·have e2:t=t / 2*2+1:=by omega
   rw [←e2] at g1;rw [g1,h];rfl
 ·rw [List.getElem?_eq_none (by simp;omega),List.getElem?_eq_none (by rw [flatL_length];omega)]
theorem holdsL {w:World} {base g cap:Nat} {e:TypeId} {l:List Ld} (h:w.ownsRow base e 2 (.slice (some ⟨g,0,none⟩) l.length cap) l.length (zQ_ l)):HoldsK encL 2 w g 0 l.toArray:=by
 intro j hj;have hj':j<(flatK encL 2 l.toArray).size:=hj;have hj2:j<l.length*2:=by simpa using hj'
 refine⟨?_,by rw [Nat.zero_add];exact h.frozenAt _⟩;rw [Nat.zero_add,h.cellAt j (by omega),←flatK_flatL,Array.getElem?_toList,Array.getElem?_eq_getElem hj',getElem!_pos _ j hj']
 rfl
theorem heap_sortedK {w:World} {g n:Nat} {os:Array Obj} {cur:Array Value} {e:TypeId} {fr:Nat×Nat} (F:Array Value) (hb:w.heap[g]? =some (.cells cur e fr)):
  (grow (putRow id (Sort.ahead w n) g 0 F) os).heap[g]? =some (.cells (putCells id 0 F cur) e fr):=by
 have hg:g<w.heap.size:=(Array.getElem?_eq_some_iff.1 hb).1;rw [heap_grow_old _ _ (by simpa using hg)];simp [putRow,mapBlock,Sort.ahead,Array.getElem?_modify,hb,onCells]
theorem grownBy_sortedK {w:World} {g n:Nat} {os:Array Obj} (F:Array Value):w.grownBy (grow (putRow id (Sort.ahead w n) g 0 F) os) (some g):=by
 refine⟨rfl,rfl,rfl,by simp,fun k hk hne=> ?_⟩;rw [heap_grow_old _ _ (by simpa using hk)];have:g≠k:=fun e=>hne (by rw [e]);simp [putRow,mapBlock,Sort.ahead,Array.getElem?_modify,this]
theorem ownsRow_sortedK {w:World} {base g cap m n:Nat} {e:TypeId} {os:Array Obj} {ss d:List Ld} (hl:d.length=ss.length) (h:w.ownsRow base e 2 (.slice (some ⟨g,0,none⟩) n cap) n (zQ_ ss)) (hn:ss.length=n):
  (sortWorldK encL 2 w g 0 m d.toArray os).ownsRow base e 2 (.slice (some ⟨g,0,none⟩) n cap) n (zQ_ d):=by
 rcases h.2 with⟨h0,_⟩ | ⟨g',cap',cur,hv,hbase,hb,h1,h2,h3,h4⟩
 ·simp at h0
 ·simp only [Value.slice.injEq,Option.some.injEq,Addr.mk.injEq,and_true,true_and] at hv;obtain⟨rfl,rfl⟩:=hv;refine⟨by rw [flatL_length];omega,.inr ⟨g,cap,_,rfl,hbase,heap_sortedK _ hb,h1,h2,by simp [putCells,h3],?_⟩⟩;have hF:(flatK encL 2 d.toArray).size=n*2:=by simp [hl,hn]
  apply List.ext_getElem?;intro j;by_cases hj:j<n*2
  ·have hjc:j<cur.size:=by rw [h3];have:=Nat.mul_le_mul_right 2 h1;omega
   rw [List.getElem?_take_of_lt hj,Array.getElem?_toList,←flatK_flatL,Array.getElem?_toList,Array.getElem?_eq_getElem (show j<(flatK encL 2 d.toArray).size from by omega)];simp only [putCells,Array.getElem?_mapIdx,Array.getElem?_eq_getElem hjc,Option.map_some,Nat.zero_le,true_and,Nat.zero_add,Nat.sub_zero];rw [if_pos (by omega),getElem!_pos _ j (by omega)]
   rfl
  ·rw [List.getElem?_take_eq_none (by omega),List.getElem?_eq_none (by rw [flatL_length];omega)]
end YtapfhhmimkkhnaaGreat
end Go.Proofs
