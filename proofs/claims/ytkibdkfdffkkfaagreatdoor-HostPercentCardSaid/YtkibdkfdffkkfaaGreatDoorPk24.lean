import Derived.Test.YtkibdkfdffkkfaaGreatDoorPk09
import Derived.Test.YtkibdkfdffkkfaaGreatDoorPk23
import Derived.Shelf.SlicesE.Compact
import Derived.Sort.OwnSorted
set_option maxRecDepth 100000
set_option maxHeartbeats 8000000
namespace Go.Proofs.YtkibdkfdffkkfaaGreatDoor.Pn
open Go.RowKit Puny Go.Shelf Go.Sort
abbrev cn (l:List Nat):List Value:=l.map fun n:Nat=>Value.int .i32 (n:Int)
abbrev encN (n:Nat):Value:=.int .i32 (n:Int)
def ren:Ren:=⟨fun|43=>383|n=>n,fun|22=>22|23=>21|0=>0|3=>3|4=>4|n=>n,fun n=>n⟩
theorem compactLaid:SlLaysE.n43 Tryz.prog ren:={
 mixed:=by kernel_rfl
 f43:=⟨Tryz.f383.name,by decide +kernel,by kernel_rfl⟩
 t0:=Tryz.underlying0
 a0:=Tryz.isAgg0
 z0:=Tryz.sizeOf0
 v0:=Tryz.zeroValue0
 t3:=Tryz.underlying3
 a3:=Tryz.isAgg3
 z3:=Tryz.sizeOf3
 v3:=Tryz.zeroValue3
 t4:=Tryz.underlying4
 a4:=Tryz.isAgg4
 z4:=Tryz.sizeOf4
 v4:=Tryz.zeroValue4
 t22:=Tryz.underlying22
 a22:=Tryz.isAgg22
 z22:=Tryz.sizeOf22
 v22:=Tryz.zeroValue22
 a23:=Tryz.isAgg21
 z23:=Tryz.sizeOf21 }
theorem eqlN:EqlAt Tryz.prog 21 encN (fun x y=>decide (x=y)):=⟨fun x y w=>by
 have:=(EqlAt.intD Tryz.prog 21 .i32).1 (x:Int) (y:Int) w
 rw[this]
 congr 2
 simp[Int.ofNat_inj],fun op a b x y w=>(EqlAt.intD Tryz.prog 21 .i32).2 op a b x y w⟩
theorem neqN:NeqAt Tryz.prog 21 encN (fun x y=>decide (x=y)):=⟨fun x y w=>by
 have:=(NeqAt.intD Tryz.prog 21 .i32).1 (x:Int) (y:Int) w
 rw[this]
 congr 2
 simp[Int.ofNat_inj],fun op a b x y w=>(NeqAt.intD Tryz.prog 21 .i32).2 op a b x y w⟩
theorem getB(l:List Nat){i:Nat}(h:i<l.length):l.toArray[i]! = l[i]:=by
 rw[getElem!_pos _ i (by simpa using h)];simp
theorem compact_once{l:List Nat}(h:l.Pairwise (·<=·)):Lib.compactUpTo l.toArray l.length=once l:=by
 have hle:∀ i j,(_hij:i<=j)->(hj:j<l.length)->l[i]'(by omega)<=l[j]:=by
  intro i j hij hj
  rcases Nat.lt_or_ge i j with hlt|hge
  ·exact List.pairwise_iff_getElem.1 h i j (by omega) hj hlt
  ·obtain rfl:i=j:=by omega
   exact Nat.le_refl _
 refine rise_ext _ _ ?_ (once_rise l h) fun z => ?_
 ·unfold Lib.compactUpTo
  rw[List.pairwise_map]
  refine (List.pairwise_lt_range.filter _).imp_of_mem ?_
  intro i j hi hj hij
  rw[List.mem_filter,List.mem_range]at hi hj
  have hk:Lib.keeps l.toArray j=true:=hj.2
  unfold Lib.keeps at hk
  simp only[decide_eq_true_eq]at hk
  rw[getB l (show j<l.length from hj.1),getB l (show j-1<l.length by omega)]at hk
  rw[getB l (show i<l.length from hi.1),getB l (show j<l.length from hj.1)]
  have h1:=hle i (j-1) (by omega) (by omega)
  have h2:=hle (j-1) j (by omega) hj.1
  omega
 ·rw[once_mem]
  unfold Lib.compactUpTo
  rw[List.mem_map]
  constructor
  ·rintro ⟨i,hi,rfl⟩
   rw[List.mem_filter,List.mem_range]at hi
   rw[getB l hi.1]
   exact List.getElem_mem hi.1
  ·intro hz
   obtain⟨k,hk,rfl⟩:=List.getElem_of_mem hz
   have key:∀ k (hk:k<l.length),∃ i,i∈(List.range l.length).filter (Lib.keeps l.toArray)/\l.toArray[i]! = l[k]:=by
    intro k
    induction k with
    | zero=>intro hk;exact⟨0,by rw[List.mem_filter,List.mem_range];exact⟨hk,by simp[Lib.keeps]⟩,getB l hk⟩
    | succ k ih =>
     intro hk
     by_cases he:l[k+1]=l[k]
     ·rw[he];exact ih (by omega)
     ·refine⟨k+1, ?_,getB l hk⟩
      rw[List.mem_filter,List.mem_range]
      refine⟨hk, ?_⟩
      unfold Lib.keeps
      rw[getB l hk,show k+1-1=k from rfl,getB l (show k<l.length by omega)]
      simp[he]
   exact key k hk
theorem holds_of_own{w:World}{base g cap:Nat}{e:TypeId}{l:List Nat}(h:w.ownsRow base e 1 (.slice (some ⟨g,0,none⟩) l.length cap) l.length (cn l)):Holds encN w g 0 l.toArray:=by
 rcases h.2 with ⟨h0,_⟩|⟨g',cap',cur,hv,_,hb,_,_,_,ht⟩
 ·cases h0
 cases hv
 intro j hj
 have hj':j<l.length:=by simpa using hj
 refine⟨?_,by simp[World.frozen?,hb]⟩
 rw[Nat.mul_one]at ht
 have h1:(cur.toList.take l.length)[j]? = (cn l)[j]?:=by rw[ht]
 rw[List.getElem?_take_of_lt hj']at h1
 simp only[World.cell?,hb,Nat.zero_add]
 simp only[Option.isSome_none,Bool.false_eq_true,if_false]
 rw[<-Array.getElem?_toList,h1]
 simp[hj']
theorem own_of_put{w:World}{base g cap n:Nat}{e:TypeId}{os:Array Obj}{l d:List Nat}(m:Nat)(h:w.ownsRow base e 1 (.slice (some ⟨g,0,none⟩) l.length cap) l.length (cn l))(hd:d.length=l.length)(hm:m<=l.length) :
  (grow (putRow encN (Sort.ahead w n) g 0 d.toArray) os).ownsRow base e 1 (.slice (some ⟨g,0,none⟩) m cap) m (cn (d.take m)) /\
  w.grownBy (grow (putRow encN (Sort.ahead w n) g 0 d.toArray) os) (some g):=by
 rcases h.2 with ⟨h0,_⟩|⟨g',cap',cur,hv,hbase,hb,h1,h2,h3,ht⟩
 ·cases h0
 cases hv
 have hg:g<w.heap.size:=(Array.getElem?_eq_some_iff.1 hb).1
 have hblk:(grow (putRow encN (Sort.ahead w n) g 0 d.toArray) os).heap[g]? = some (.cells (putCells encN 0 d.toArray cur) e (0,0)):=by
  rw[heap_grow_old _ _ (by simpa using hg)]
  simp[putRow,mapBlock,Sort.ahead,Array.getElem?_modify,hb,onCells]
 refine⟨⟨by simp;omega,.inr ⟨g,cap,_,rfl,hbase,hblk,by omega,h2,by simp[putCells,h3], ?_⟩⟩,rfl,rfl,rfl,by simp,fun k hk hne => ?_⟩
 ·rw[Nat.mul_one]
  apply List.ext_getElem?
  intro j
  by_cases hj:j<m
  ·rw[List.getElem?_take_of_lt hj,Array.getElem?_toList]
   have hjd:j<d.length:=by omega
   have hjc:j<cur.size:=by omega
   simp[putCells,hjd,hjc,hj]
  ·rw[List.getElem?_take_eq_none (by omega),List.getElem?_eq_none (by simp;omega)]
 ·rw[heap_grow_old _ _ (by simpa using hk)]
  have:g≠k:=fun e=>hne (by rw[e])
  simp[putRow,mapBlock,Sort.ahead,Array.getElem?_modify,this]
theorem grow_none(w:World):grow w #[]=w:=by unfold grow;simp
def Owned (base:Nat) (l:List Nat) (w:World) (g:Option Nat) (e:Ending) (w':World):Prop :=
 ∃ v,e = .returned v/\w'.ownsRow base 21 1 v l.length (cn l)/\w.grownBy w' g
theorem Compact_any(base g cap:Nat)(l:List Nat)(w:World)(hp:l.Pairwise (·<=·))(hl:l.length<=1000000)(h:w.ownsRow base 21 1 (.slice (some ⟨g,0,none⟩) l.length cap) l.length (cn l)) :
  Calls Tryz.prog 383 #[.slice (some ⟨g,0,none⟩) l.length cap] w (Owned base (once l) w (some g)):=by
 have hcap:l.length<=cap:=by
  rcases h.2 with ⟨h0,_⟩|⟨g',cap',cur,hv,_,_,h1,_⟩
  ·cases h0
  cases hv
  exact h1
 have hH:=holds_of_own h
 have hc:=AnyE.slices_Compact compactLaid encN (fun _=>rfl) eqlN neqN 0 Tryz.zeroValue21 g 0 cap l.toArray w hH (by simp;omega) (by simpa using hcap)
 have e1:Lib.compactUpTo l.toArray l.toArray.size=once l:=by simpa using compact_once hp
 rw[e1]at hc
 refine Calls.mono (P:=Tryz.prog) (by simpa[ren] using hc) ?_
 rintro e w' ⟨rfl,q,rfl⟩
 have hle:(once l).length<=l.length:=by
  rw[<-compact_once hp]
  unfold Lib.compactUpTo
  rw[List.length_map]
  exact Nat.le_trans (List.length_filter_le _ _) (by simp)
 have hx:=own_of_put (n:=q) (os:=#[]) (d:=once l++List.replicate (l.length-(once l).length) 0) (once l).length h (by simp;omega) hle
 rw[grow_none,List.take_left]at hx
 exact⟨_,rfl,by simpa using hx.1,by simpa using hx.2⟩
def SortOk (N:Nat):Prop:=∀ (base g cap:Nat) (l:List Nat) (w:World),l.length<=N->w.ownsRow base 21 1 (.slice (some ⟨g,0,none⟩) l.length cap) l.length (cn l) ->
 Calls Tryz.prog 382 #[.slice (some ⟨g,0,none⟩) l.length cap] w fun e w' =>
  e = .returned (.tuple #[])/\w'.ownsRow base 21 1 (.slice (some ⟨g,0,none⟩) l.length cap) l.length (cn (l.mergeSort fun a b=>decide (a<=b)))/\w.grownBy w' (some g)
end Go.Proofs.YtkibdkfdffkkfaaGreatDoor.Pn
