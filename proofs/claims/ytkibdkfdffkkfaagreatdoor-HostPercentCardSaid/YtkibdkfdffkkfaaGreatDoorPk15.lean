import Derived.Test.YtkibdkfdffkkfaaGreatDoorPk14
import Derived.Shelf.SlSortCmp.KitK
import Derived.Shelf.SlicesQ.IndexFunc
import Derived.Test.YtkibdkfdffkkfaaGreatDoorPk17
set_option maxRecDepth 100000
set_option maxHeartbeats 8000000
namespace Go.Proofs.YtkibdkfdffkkfaaGreatDoor
open Go.RowKit Norm Go.Shelf Go.Sort Go.Lib
def renC:Ren:=⟨fun|20=>368|n=>n,fun|22=>233|24=>275|25=>323|0=>0|3=>3|4=>4|n=>n,fun n=>n⟩
theorem insLaid:SlLaysF0.n20 Tryz.prog renC:={
 mixed:=by kernel_rfl
 f20:=⟨Tryz.f368.name,by decide +kernel,by kernel_rfl⟩
 t0:=Tryz.underlying0
 a0:=Tryz.isAgg0
 z0:=Tryz.sizeOf0
 v0:=Tryz.zeroValue0
 t3:=Tryz.underlying3
 a3:=Tryz.isAgg3
 z3:=Tryz.sizeOf3
 v3:=Tryz.zeroValue3
 t4:=Tryz.underlying4
 a4:=Tryz.isAgg4
 z4:=Tryz.sizeOf4
 v4:=Tryz.zeroValue4
 t22:=Tryz.underlying233
 a22:=Tryz.isAgg233
 z22:=Tryz.sizeOf233
 v22:=Tryz.zeroValue233
 t25:=Tryz.underlying323
 a25:=Tryz.isAgg323
 z25:=Tryz.sizeOf323
 v25:=Tryz.zeroValue323 }
def renH:Ren:=⟨fun|6=>289|n=>n,fun|22=>233|23=>275|25=>320|0=>0|3=>3|4=>4|n=>n,fun n=>n⟩
theorem idxLaid:SlLaysH0.n6 Tryz.prog renH:={
 mixed:=by kernel_rfl
 f6:=⟨Tryz.f289.name,by decide +kernel,by kernel_rfl⟩
 t0:=Tryz.underlying0
 a0:=Tryz.isAgg0
 z0:=Tryz.sizeOf0
 v0:=Tryz.zeroValue0
 t3:=Tryz.underlying3
 a3:=Tryz.isAgg3
 z3:=Tryz.sizeOf3
 v3:=Tryz.zeroValue3
 t4:=Tryz.underlying4
 a4:=Tryz.isAgg4
 z4:=Tryz.sizeOf4
 v4:=Tryz.zeroValue4
 t22:=Tryz.underlying233
 a22:=Tryz.isAgg233
 z22:=Tryz.sizeOf233
 v22:=Tryz.zeroValue233
 t25:=Tryz.underlying320
 a25:=Tryz.isAgg320
 z25:=Tryz.sizeOf320
 v25:=Tryz.zeroValue320 }
def encC (x:C):List Value:=[.int .i32 x.1,.int .u8 x.2]
theorem encC_len(x:C):(encC x).length=2:=rfl
theorem encC_one(x:C):∀ v∈encC x,v.oneCell'=true:=by
 intro v hv
 simp[encC]at hv
 rcases hv with rfl|rfl<;>rfl
theorem cmp8_any(x y:Int)(w:World):Calls Tryz.prog 292 #[.int .u8 x,.int .u8 y] w (Gives (.int .i64 (cmpZ x y)) w):=by
 by_cases h1:x<y
 ·have HC:Hid (cmpZ x y = -1):=Lib.hid (by unfold cmpZ;rw[if_pos h1])
  go_enter Tryz.func292,Tryz.ntmps292
  go_wp2
  go_ret
  exact⟨by rw[HC.out];rfl,rfl⟩
 ·by_cases h2:y<x
  ·have HC:Hid (cmpZ x y=1):=Lib.hid (by unfold cmpZ;rw[if_neg h1,if_pos h2])
   go_enter Tryz.func292,Tryz.ntmps292
   go_wp2
   go_ret
   exact⟨by rw[HC.out];rfl,rfl⟩
  ·have HC:Hid (cmpZ x y=0):=Lib.hid (by unfold cmpZ;rw[if_neg h1,if_neg h2])
   go_enter Tryz.func292,Tryz.ntmps292
   go_wp2
   go_ret
   exact⟨by rw[HC.out];rfl,rfl⟩
def cfC (x y:C):Int:=cmpZ x.2 y.2
theorem closure_any(x y:C)(W:World):Calls Tryz.prog 291 #[.agg #[.int .i32 x.1,.int .u8 x.2],.agg #[.int .i32 y.1,.int .u8 y.2]] W fun e w'=>e = .returned (.int .i64 (cfC x y))/\∃ q os',w'=grow (W.drewN q) os':=by
 have HC:=Lib.hid (fun w=>cmp8_any x.2 y.2 w)
 unfold cfC
 generalize cmpZ x.2 y.2=r at HC ⊢
 go_enter Tryz.func291,Tryz.ntmps291
 go_wp2_with(first|(go_at_call 292;refine (HC.out _).mono ?_;rintro e w' ⟨rfl,rfl⟩)|fail)
 go_ret
 exact⟨rfl,0,_,by rw[alloc_eq_grow,alloc_eq_grow,grow_grow];rfl⟩
theorem cmpLays(blk off size:Nat)(w:World):CmpLays Tryz.prog 291 #[] encC 2 cfC blk off size w:=fun _ _ _ _ x y=>closure_any x y _
def isSt (x:C):Bool:=x.2==0
theorem starter_any(w:World):PredBelow Tryz.prog 248 #[] (fun x => .agg (encC x).toArray) isSt w:=fun W x hb=>by
 show Calls Tryz.prog 248 #[.agg #[.int .i32 x.1,.int .u8 x.2]] W _
 by_cases h0:x.2=0
 ·have HE:Hid (isSt x=true):=Lib.hid (by unfold isSt;rw[h0];rfl)
  have hz:(x.2==0)=true:=by rw[h0];rfl
  go_enter Tryz.func248,Tryz.ntmps248
  go_wp2
  go_ret
  exact⟨by rw[HE.out];first|rfl|(simp[h0]),hb.alloc hb.size _⟩
 ·have HE:Hid (isSt x=false):=Lib.hid (by unfold isSt;simp[h0])
  go_enter Tryz.func248,Tryz.ntmps248
  go_wp2
  go_ret
  exact⟨by rw[HE.out];first|rfl|(simp[h0]),hb.alloc hb.size _⟩
theorem eCl:∀ args w,(callFunc 291 args).run Tryz.prog w = .ok (.enter 291 args) w:=enters_of Tryz.func291 (by kernel_rfl) rfl
theorem eSt:∀ args w,(callFunc 248 args).run Tryz.prog w = .ok (.enter 248 args) w:=enters_of Tryz.func248 (by kernel_rfl) rfl
theorem ins_any(blk off cap a b:Nat)(d:Array C)(w:World)(hH:HoldsK encC 2 w blk off d)(hblk:blk<w.heap.size)(hab:a<=b)(hb:b<=d.size)(hsz:d.size<=1000000) :
  Calls Tryz.prog 368 #[.slice (some ⟨blk,off,none⟩) d.size cap,.int .i64 a,.int .i64 b,.func (.func 291) #[] #[]] w fun e w' =>
   e = .returned (.tuple #[])/\∃ n os,w'=sortWorldK encC 2 w blk off n (Sort.insertionSort (ltOf cfC) d a b) os :=
 AnyQ.insertionSortCmpFunc insLaid 2 Tryz.isAgg275 Tryz.sizeOf275 encC encC_len encC_one cfC _ #[] blk off cap a b d w eCl (cmpLays blk off d.size w) hH hblk hab hb (by omega)
theorem idx_any(b off n c:Nat)(zs:List C)(w:World)(hz:n=zs.length)(hbig:n<=1000000)(hb:b<w.heap.size)
  (hc:∀ j,j<zs.length->∀ i v,(encC zs[j]!)[i]? = some v->w.cell? ⟨b,off+j*2+i,none⟩=some v) :
  Calls Tryz.prog 289 #[.slice (some ⟨b,off,none⟩) n c,.func (.func 248) #[] #[]] w fun e w'=>e = .returned (.int .i64 (Lib.idxBy (fun _ y=>isSt y) (zs.take n) default))/\Below w.heap.size w w' :=
 AnyQ.slices_IndexFunc idxLaid 2 Tryz.isAgg275 Tryz.sizeOf275 encC encC_len isSt _ #[] eSt b off n c zs w (starter_any w) (by omega) (by omega) hb hc
end Go.Proofs.YtkibdkfdffkkfaaGreatDoor
namespace Go.Proofs.YtkibdkfdffkkfaaGreatDoor
open Norm Go.Sort
def Srt (l:List C):Prop:=l.Pairwise (fun a b=>a.2<=b.2)
def Stb (l l':List C):Prop:=∀ c:Int,l.filter (fun x=>x.2==c)=l'.filter (fun x=>x.2==c)
theorem Stb.refl(l:List C):Stb l l:=fun _=>rfl
theorem Stb.trans{a b c:List C}(h:Stb a b)(k:Stb b c):Stb a c:=fun x=>(h x).trans (k x)
theorem Stb.symm{a b:List C}(h:Stb a b):Stb b a:=fun x=>(h x).symm
theorem Stb.mem{l l':List C}(h:Stb l l'){y:C}(hy:y∈l):y∈l':=by
 have h1:y∈l.filter (fun x=>x.2==y.2):=List.mem_filter.2 ⟨hy,by simp⟩
 rw[h y.2]at h1
 exact (List.mem_filter.1 h1).1
theorem Stb.append{a b c d:List C}(h:Stb a b)(k:Stb c d):Stb (a++c) (b++d):=fun x=>by rw[List.filter_append,List.filter_append,h x,k x]
theorem srt_unique:∀ l l':List C,Srt l->Srt l'->Stb l l'->l=l'
 | [],[],_,_,_=>rfl
 | [],y::t,_,_,h=>by have:=h.symm.mem (List.mem_cons_self (a:=y) (l:=t));simp at this
 | x::t,[],_,_,h=>by have:=h.mem (List.mem_cons_self (a:=x) (l:=t));simp at this
 | x :: t, y :: t', hs, hs', h => by
  have hs1:=List.pairwise_cons.1 hs
  have hs2:=List.pairwise_cons.1 hs'
  have e1:x.2<=y.2:=by
   rcases List.mem_cons.1 (h.symm.mem (List.mem_cons_self (a:=y) (l:=t'))) with e|e
   ·rw[e];exact Int.le_refl _
   ·exact hs1.1 y e
  have e2:y.2<=x.2:=by
   rcases List.mem_cons.1 (h.mem (List.mem_cons_self (a:=x) (l:=t))) with e|e
   ·rw[e];exact Int.le_refl _
   ·exact hs2.1 x e
  have e3:x.2=y.2:=Int.le_antisymm e1 e2
  have h1:=h x.2
  rw[List.filter_cons_of_pos (by simp),List.filter_cons_of_pos (by simp[e3])]at h1
  have hxy:x=y:=(List.cons.inj h1).1
  subst hxy
  rw[srt_unique t t' hs1.2 hs2.2 fun c=>by
   have:=h c
   by_cases hc:x.2=c
   ·rw[List.filter_cons_of_pos (by simp[hc]),List.filter_cons_of_pos (by simp[hc])]at this
    exact (List.cons.inj this).2
   ·rw[List.filter_cons_of_neg (by simp[hc]),List.filter_cons_of_neg (by simp[hc])]at this
    exact this]
theorem mem_insC(x z:C):∀ l,z∈insC x l↔z=x∨z∈l
 | []=>by simp[insC]
 | y :: t => by
  unfold insC
  split
  ·simp
  ·rw[List.mem_cons,mem_insC x z t,List.mem_cons]
   constructor
   ·rintro (h|h|h)<;>simp[h]
   ·rintro (h|h|h)<;>simp[h]
theorem insC_srt(x:C):∀ l,Srt l->Srt (insC x l)
 | [],_=>List.pairwise_singleton _ _
 | y :: t, h => by
  have h1:=List.pairwise_cons.1 h
  unfold insC
  split
  ·rename_i hlt
   refine List.pairwise_cons.2 ⟨fun z hz => ?_,h⟩
   rcases List.mem_cons.1 hz with rfl|hz
   ·exact Int.le_of_lt hlt
   ·exact Int.le_trans (Int.le_of_lt hlt) (h1.1 z hz)
  ·rename_i hge
   refine List.pairwise_cons.2 ⟨fun z hz => ?_,insC_srt x t h1.2⟩
   rcases (mem_insC x z t).1 hz with rfl|hz
   ·omega
   ·exact h1.1 z hz
theorem insC_stb(x:C)(c:Int):∀ l,Srt l->(insC x l).filter (fun x=>x.2==c)=l.filter (fun x=>x.2==c)++[x].filter (fun x=>x.2==c)
 | [],_=>by simp[insC]
 | y :: t, h => by
  have h1:=List.pairwise_cons.1 h
  unfold insC
  split
  ·rename_i hlt
   by_cases hc:x.2=c
   ·have:(y::t).filter (fun x=>x.2==c)=[]:=by
     rw[List.filter_eq_nil_iff]
     intro z hz
     rcases List.mem_cons.1 hz with rfl|hz
     ·simp;omega
     ·have:=h1.1 z hz;simp;omega
    rw[List.filter_cons,if_pos (by simp[hc]),this]
    simp[hc]
   ·rw[List.filter_cons,if_neg (by simp[hc])]
    simp[hc]
  ·by_cases hc:y.2=c
   ·rw[List.filter_cons_of_pos (a:=y) (by simp[hc]),insC_stb x c t h1.2,List.filter_cons_of_pos (a:=y) (by simp[hc])]
    rfl
   ·rw[List.filter_cons_of_neg (a:=y) (by simp[hc]),insC_stb x c t h1.2,List.filter_cons_of_neg (a:=y) (by simp[hc])]
theorem foldIns:∀ (l acc:List C),Srt acc->Srt (l.foldl (fun a x=>insC x a) acc)/\∀ c:Int,(l.foldl (fun a x=>insC x a) acc).filter (fun x=>x.2==c)=acc.filter (fun x=>x.2==c)++l.filter (fun x=>x.2==c)
 | [],acc,h=>⟨h,fun c=>by simp⟩
 | x :: t, acc, h => by
  obtain⟨h1,h2⟩:=foldIns t (insC x acc) (insC_srt x acc h)
  refine⟨h1,fun c => ?_⟩
  rw[List.foldl_cons,h2 c,insC_stb x c acc h,List.append_assoc,<-List.filter_append]
  rfl
theorem isort_srt(l:List C):Srt (isort l):=(foldIns l [] List.Pairwise.nil).1
theorem isort_stb(l:List C):Stb l (isort l):=fun c=>by rw[isort,(foldIns l [] List.Pairwise.nil).2 c];rfl
theorem isort_of{l l':List C}(h:Srt l')(k:Stb l l'):l'=isort l:=srt_unique _ _ h (isort_srt l) (k.symm.trans (isort_stb l))
theorem isort_srt_self{l:List C}(h:Srt l):isort l=l:=(isort_of h (Stb.refl l)).symm
theorem stb_len{l l':List C}(h:Stb l l'):l.length=l'.length:=by
 have:List.Perm l l':=by
  rw[List.perm_iff_count]
  intro a
  have:=h a.2
  have e:∀ l:List C,l.count a=(l.filter (fun x=>x.2==a.2)).count a:=fun l=>by rw[List.count_filter (by simp)]
  rw[e l,e l',this]
 exact this.length_eq
theorem isort_len(l:List C):(isort l).length=l.length:=(stb_len (isort_stb l)).symm
theorem ltC(x y:C):ltOf cfC x y=decide (x.2<y.2):=by
 unfold Go.Proofs.ltOf cfC cmpZ
 by_cases h:x.2<y.2
 ·simp[h]
 ·rw[if_neg h]
  split<;>simp[h]
theorem swoC:SWO (ltOf cfC):=⟨fun x=>by simp[ltC],fun x y z h1 h2=>by simp[ltC]at *;omega,fun x y z h1 h2=>by simp[ltC]at *;omega⟩
theorem toList_swp(d:Array C)(i j:Nat):(swp d i j).toList=(d.toList.set i d[j]!).set j d[i]!:=by simp[swp]
theorem swp_stb{d:Array C}{j:Nat}(hj:j+1<d.size)(hne:d[j+1]!.2≠d[j]!.2):Stb d.toList (swp d (j+1) j).toList:=by
 rw[toList_swp]
 have hl:j+1<d.toList.length:=by simpa using hj
 have e:d.toList=d.toList.take j++d[j]! :: d[j+1]! :: d.toList.drop (j+2):=by
  conv=>lhs;rw[<-List.take_append_drop j d.toList]
  congr 1
  rw[List.drop_eq_getElem_cons (by omega),List.drop_eq_getElem_cons (by omega)]
  simp[getElem!_pos,hj,show j<d.size by omega]
 have hlen:(d.toList.take j).length=j:=by simp;omega
 generalize d[j]! = x at e hne ⊢
 generalize d[j+1]! = y at e hne ⊢
 generalize d.toList.take j=p at e hlen
 generalize d.toList.drop (j+2)=s at e
 rw[e]
 subst hlen
 intro c
 have e2:((p++x::y::s).set (p.length+1) x).set p.length y=p++y::x::s:=by simp
 rw[e2,List.filter_append,List.filter_append,List.filter_cons,List.filter_cons,List.filter_cons,List.filter_cons]
 by_cases h1:x.2=c
 ·have h2:y.2≠c:=fun h=>hne (h.trans h1.symm)
  simp[h1,h2]
 ·simp[h1]
theorem swp_size'(d:Array C)(i j:Nat):(swp d i j).size=d.size:=by simp[swp]
theorem insInner_stb(a:Nat):∀ (j:Nat) (d:Array C),j<d.size->Stb d.toList (insInner (ltOf cfC) a j d).toList/\(insInner (ltOf cfC) a j d).size=d.size
 | 0,d,_=>⟨Stb.refl _,rfl⟩
 | j + 1, d, h => by
  rw[insInner]
  split
  ·rename_i hc
   simp only[Bool.and_eq_true,ltC,decide_eq_true_eq]at hc
   have h1:=swp_stb h (by have:=hc.2;omega)
   obtain⟨h2,h3⟩:=insInner_stb a j (swp d (j+1) j) (by rw[swp_size'];omega)
   exact⟨h1.trans h2,by rw[h3,swp_size']⟩
  ·exact⟨Stb.refl _,rfl⟩
theorem insOuter_stb(a b:Nat):∀ (n i:Nat) (d:Array C),b-i<=n->b<=d.size->Stb d.toList (insOuter (ltOf cfC) a b i d).toList/\(insOuter (ltOf cfC) a b i d).size=d.size
 | 0, i, d, hn, hb => by
  rw[insOuter,if_neg (by omega)]
  exact⟨Stb.refl _,rfl⟩
 | n + 1, i, d, hn, hb => by
  rw[insOuter]
  split
  ·obtain⟨h1,h2⟩:=insInner_stb a i d (by omega)
   obtain⟨h3,h4⟩:=insOuter_stb a b n (i+1) (insInner (ltOf cfC) a i d) (by omega) (by omega)
   exact⟨h1.trans h3,h4.trans h2⟩
  ·exact⟨Stb.refl _,rfl⟩
theorem insertion_stb(d:Array C)(a b:Nat)(hb:b<=d.size):Stb d.toList (insertionSort (ltOf cfC) d a b).toList/\(insertionSort (ltOf cfC) d a b).size=d.size:=insOuter_stb a b _ (a+1) d (Nat.le_refl _) hb
end Go.Proofs.YtkibdkfdffkkfaaGreatDoor
namespace Go.Proofs.YtkibdkfdffkkfaaGreatDoor
open Go.RowKit Norm Go.Shelf Go.Sort Go.Lib
def Sorted1 (blk off:Nat) (d:Array C) (w:World) (e:Ending) (w':World):Prop:=e = .returned (.tuple #[])/\∃ n os,w'=sortWorldK encC 2 w blk off n (isort d.toList).toArray os
def StableCmpOk (N:Nat):Prop:=∀ (blk off cap:Nat) (d:Array C) (w:World),HoldsK encC 2 w blk off d->blk<w.heap.size->d.size<=N ->
 Calls Tryz.prog 329 #[.slice (some ⟨blk,off,none⟩) d.size cap,.int .i64 d.size,.func (.func 291) #[] #[]] w (Sorted1 blk off d w)
def StableOk (N:Nat):Prop:=∀ (blk off cap:Nat) (d:Array C) (w:World),HoldsK encC 2 w blk off d->blk<w.heap.size->d.size<=N ->
 Calls Tryz.prog 290 #[.slice (some ⟨blk,off,none⟩) d.size cap,.func (.func 291) #[] #[]] w (Sorted1 blk off d w)
theorem stable_of_cmp{N:Nat}(h:StableCmpOk N):StableOk N:=by
 intro blk off cap d w hH hb hd
 have HC:=Lib.hid (h blk off cap d w hH hb hd)
 clear hH h
 go_enter Tryz.func290,Tryz.ntmps290
 go_wp2_with(first|(go_at_call 329;refine HC.out.mono ?_;rintro e w' ⟨rfl,hS⟩)|fail)
 go_end0
 exact⟨rfl,hS⟩
def c2 (l:List C):List Value:=l.flatMap encC
theorem c2_len(l:List C):(c2 l).length=l.length*2:=by
 induction l with
 | nil=>rfl
 | cons x t ih=>unfold c2 at ih ⊢;rw[List.flatMap_cons,List.length_append,ih,List.length_cons,encC_len];omega
theorem c2_append(a b:List C):c2 (a++b)=c2 a++c2 b:=by unfold c2;rw[List.flatMap_append]
theorem c2_get:∀ (l:List C) (t:Nat),t<l.length*2->(c2 l)[t]? = some ((encC l[t/2]!)[t%2]!)
 | [],t,h=>by simp at h
 | x::l,0,_=>rfl
 | x::l,1,_=>rfl
 | x :: l, t + 2, h => by
  have h1:=c2_get l t (by simp only[List.length_cons]at h;omega)
  have e:(c2 (x::l))[t+2]? = (c2 l)[t]?:=by
   show (encC x++c2 l)[t+2]? = _
   rw[List.getElem?_append_right (by simp[encC])]
   simp[encC]
  rw[e,h1,show (t+2)/2=t/2+1 from by omega,show (t+2)%2=t%2 from by omega]
  simp
theorem flatK_c2(l:List C):(flatK encC 2 l.toArray).toList=c2 l:=by
 apply List.ext_getElem?
 intro t
 by_cases h:t<l.length*2
 ·rw[c2_get l t h]
  have hs:(flatK encC 2 l.toArray).size=l.length*2:=by simp[flatK]
  rw[Array.getElem?_toList,Array.getElem?_eq_getElem (by omega)]
  have:=get_flatK encC 2 l.toArray t (by simpa using h)
  rw[getElem!_pos _ t (by omega)]at this
  rw[this]
  simp
 ·rw[List.getElem?_eq_none (by simp[flatK];omega),List.getElem?_eq_none (by rw[c2_len];omega)]
theorem flatK_sz(l:List C):(flatK encC 2 l.toArray).size=l.length*2:=by simp[flatK]
section
variable {w:World} {base g cap n:Nat} {e:TypeId} {P M S:List C}
theorem own_holds(h:w.ownsRow base e 2 (.slice (some ⟨g,0,none⟩) n cap) n (c2 (P++M++S))):HoldsK encC 2 w g (2*P.length) M.toArray/\g<w.heap.size/\base<=g:=by
 rcases h.2 with ⟨h0,_⟩|⟨g',cap',cur,hv,hbase,hb,h1,h2,h3,ht⟩
 ·cases h0
 cases hv
 refine⟨fun j hj=>⟨?_,by simp[World.frozen?,hb]⟩,(Array.getElem?_eq_some_iff.1 hb).1,hbase⟩
 have hn:=h.1
 rw[c2_len,List.length_append,List.length_append]at hn
 rw[flatK_sz]at hj
 have h4:(cur.toList.take (n*2))[2*P.length+j]? = (c2 (P++M++S))[2*P.length+j]?:=by rw[ht]
 rw[List.getElem?_take_of_lt (by omega)]at h4
 simp only[World.cell?,hb]
 simp only[Option.isSome_none,Bool.false_eq_true,if_false]
 rw[<-Array.getElem?_toList,h4,c2_append,c2_append,List.append_assoc,List.getElem?_append_right (by rw[c2_len];omega),c2_len,show 2*P.length+j-P.length*2=j from by omega,List.getElem?_append_left (by rw[c2_len];omega),<-flatK_c2,Array.getElem?_toList,Array.getElem?_eq_getElem (by rw[flatK_sz];omega)]
 rw[getElem!_pos _ j (by rw[flatK_sz];omega)]
 rfl
theorem own_put{M':List C}(h:w.ownsRow base e 2 (.slice (some ⟨g,0,none⟩) n cap) n (c2 (P++M++S)))(hl:M'.length=M.length)(q:Nat)(os:Array Obj) :
  (sortWorldK encC 2 w g (2*P.length) q M'.toArray os).ownsRow base e 2 (.slice (some ⟨g,0,none⟩) n cap) n (c2 (P++M'++S))/\w.grownBy (sortWorldK encC 2 w g (2*P.length) q M'.toArray os) (some g):=by
 rcases h.2 with ⟨h0,_⟩|⟨g',cap',cur,hv,hbase,hb,h1,h2,h3,ht⟩
 ·cases h0
 cases hv
 have hn:=h.1
 rw[c2_len,List.length_append,List.length_append]at hn
 have hg:g<w.heap.size:=(Array.getElem?_eq_some_iff.1 hb).1
 have hblk:(sortWorldK encC 2 w g (2*P.length) q M'.toArray os).heap[g]? = some (.cells (putCells id (2*P.length) (flatK encC 2 M'.toArray) cur) e (0,0)):=by
  unfold sortWorldK putRowK
  rw[heap_grow_old _ _ (by simpa using hg)]
  simp[putRow,mapBlock,Sort.ahead,Array.getElem?_modify,hb,onCells]
 refine⟨⟨by rw[c2_len,List.length_append,List.length_append];omega,.inr ⟨g,cap,_,rfl,hbase,hblk,h1,h2,by simp[putCells,h3], ?_⟩⟩,rfl,rfl,rfl,by simp[sortWorldK,putRowK],fun k hk hne => ?_⟩
 ·apply List.ext_getElem?
  intro t
  by_cases hlt:t<n*2
  ·have hc:t<cur.size:=by rw[h3];have:=Nat.mul_le_mul_right 2 h1;omega
   have h4:(cur.toList.take (n*2))[t]? = (c2 (P++M++S))[t]?:=by rw[ht]
   rw[List.getElem?_take_of_lt hlt,Array.getElem?_toList]at h4 ⊢
   unfold putCells
   rw[Array.getElem?_mapIdx,Array.getElem?_eq_getElem hc,Option.map_some,flatK_sz]
   rw[Array.getElem?_eq_getElem hc]at h4
   split
   ·rename_i hw
    rw[getElem!_pos _ (t-2*P.length) (by rw[flatK_sz];omega),id_eq,<-Array.getElem?_eq_getElem,<-Array.getElem?_toList,flatK_c2,c2_append,c2_append,List.append_assoc,List.getElem?_append_right (by rw[c2_len];omega),c2_len,List.getElem?_append_left (by rw[c2_len];omega),Nat.mul_comm 2]
   ·rename_i hw
    rw[h4,c2_append,c2_append,c2_append,c2_append,List.append_assoc,List.append_assoc]
    by_cases hp:t<P.length*2
    ·rw[List.getElem?_append_left (by rw[c2_len];omega),List.getElem?_append_left (by rw[c2_len];omega)]
    ·have e1:=c2_len P
     have e2:=c2_len M
     have e3:=c2_len M'
     rw[List.getElem?_append_right (l₁:=c2 P) (by omega),List.getElem?_append_right (l₁:=c2 P) (by omega),List.getElem?_append_right (l₁:=c2 M) (by omega),List.getElem?_append_right (l₁:=c2 M') (by omega),e2,e3,hl]
  ·rw[List.getElem?_take_eq_none (by omega),List.getElem?_eq_none (by rw[c2_len,List.length_append,List.length_append];omega)]
 ·unfold sortWorldK putRowK
  rw[heap_grow_old _ _ (by simpa using hk)]
  have:g≠k:=fun e=>hne (by rw[e])
  simp[putRow,mapBlock,Sort.ahead,Array.getElem?_modify,this]
end
def Runs (N:Nat) (l:List C):Prop:=∀ P M S,l=P++M++S->(∀ x∈M,isSt x=false)->M.length<=N
theorem runs_short{N:Nat}{l:List C}(h:l.length<=N):Runs N l:=by
 rintro P M S rfl _
 simp at h
 omega
theorem Runs.tail{N:Nat}{P l:List C}(h:Runs N (P++l)):Runs N l:=by
 rintro P' M S rfl hM
 exact h (P++P') M S (by simp) hM
theorem isSt_false{x:C}:isSt x=false↔x.2≠0:=by simp[isSt]
theorem isSt_true{x:C}:isSt x=true↔x.2=0:=by simp[isSt]
theorem arr_acc:∀ (k:Nat) (l acc:List C),k<=l.length->(∀ x∈l.take k,isSt x=false)->arr acc l=arr (acc++l.take k) (l.drop k)
 | 0,l,acc,_,_=>by simp
 | k+1,[],acc,h,_=>by simp at h
 | k + 1, c :: t, acc, h, hs => by
  have hc:c.2≠0:=isSt_false.1 (hs c (by simp))
  have:=arr_acc k t (acc++[c]) (by simpa using h) (fun x hx=>hs x (by simp[hx]))
  rw[arr,if_neg hc,this]
  simp
theorem arr_none{l:List C}(h:∀ x∈l,isSt x=false):arr [] l=isort l:=by
 rw[arr_acc l.length l [] (Nat.le_refl _) (by simpa using h)]
 simp[arr]
theorem arr_hit{T S:List C}{c:C}(h:∀ x∈T,isSt x=false)(hc:isSt c=true):arr [] (T++c::S)=isort T++c::arr [] S:=by
 rw[arr_acc T.length (T++c::S) [] (by simp) (by simpa using h)]
 simp[arr,isSt_true.1 hc]
theorem cut_st(l:List C):(∀ x∈l,isSt x=false)∨∃ T c S,l=T++c::S/\(∀ x∈T,isSt x=false)/\isSt c=true:=by
 induction l with
 | nil=>exact .inl (by simp)
 | cons x t ih =>
  cases hx:isSt x with
  | true=>exact .inr ⟨[],x,t,rfl,by simp,hx⟩
  | false =>
   rcases ih with h|⟨T,c,S,rfl,h,hc⟩
   ·exact .inl (by intro y hy;rcases List.mem_cons.1 hy with rfl|hy;exact hx;exact h y hy)
   ·exact .inr ⟨x::T,c,S,rfl,by intro y hy;rcases List.mem_cons.1 hy with rfl|hy;exact hx;exact h y hy,hc⟩
theorem idx_hit{T S:List C}{c:C}(h:∀ x∈T,isSt x=false)(hc:isSt c=true):Lib.idxBy (fun _ y=>isSt y) ((T++c::S).take (T++c::S).length) default=(T.length:Nat):=by
 refine Lib.idxBy_hit (fun _ y=>isSt y) _ _ T.length default (by simp) (Nat.le_refl _) ?_ ?_
 ·show isSt _=true
  rw[getElem!_pos _ T.length (by simp)]
  simpa using hc
 ·intro j hj
  show isSt _=false
  rw[getElem!_pos _ j (by simp;omega),List.getElem_append_left hj]
  exact h _ (List.getElem_mem hj)
theorem idx_miss{l:List C}(h:∀ x∈l,isSt x=false):Lib.idxBy (fun _ y=>isSt y) (l.take l.length) default = -1:=by
 refine Lib.idxBy_miss (fun _ y=>isSt y) _ _ default ?_
 intro j hj
 show isSt _=false
 rw[getElem!_pos _ j hj]
 exact h _ (List.getElem_mem hj)
theorem own_cells{w:World}{base g cap n:Nat}{e:TypeId}{P R:List C}(h:w.ownsRow base e 2 (.slice (some ⟨g,0,none⟩) n cap) n (c2 (P++R)))(off:Nat)(ho:off=2*P.length) :
  ∀ j,j<R.length->∀ i v,(encC R[j]!)[i]? = some v->w.cell? ⟨g,off+j*2+i,none⟩=some v:=by
 subst ho
 have hH:=(own_holds (P:=P) (M:=R) (S:=[]) (by rw[List.append_nil];exact h)).1
 intro j hj i v hi
 have hi2:i<2:=by
  rcases Nat.lt_or_ge i 2 with h|h
  ·exact h
  ·rw[List.getElem?_eq_none (by rw[encC_len];exact h)]at hi;cases hi
 have h1:=(hH (j*2+i) (by rw[flatK_sz];omega)).1
 rw[Nat.add_assoc,h1,get_flatK encC 2 R.toArray _ (by simp;omega)]
 rw[show (j*2+i)/2=j from by omega,show (j*2+i)%2=i from by omega]
 rw[getElem!_pos _ i (by rw[encC_len];exact hi2)]
 rw[List.getElem?_eq_getElem (by rw[encC_len];exact hi2)]at hi
 have e:R.toArray[j]! = R[j]!:=by simp
 simp only[e]
 exact hi
theorem gb_below{w w1 w2:World}{r:Option Nat}(h:w.grownBy w1 r)(hB:Below w1.heap.size w1 w2):w.grownBy w2 r :=
 World.grownBy.trans h (World.grownBy.but ⟨hB.os,hB.tape,hB.output,hB.size,fun j hj _=>hB.block j hj⟩ _)
theorem slice_eq{a a':Option Addr}{n n' c c':Nat}(h1:a=a')(h2:n=n')(h3:c=c'):Value.slice a n c=Value.slice a' n' c':=by rw[h1,h2,h3]
def SortedRow (base g cap n:Nat) (l:List C) (w:World) (e:Ending) (w':World):Prop:=e = .returned (.tuple #[])/\w'.ownsRow base 275 2 (.slice (some ⟨g,0,none⟩) n cap) n (c2 l)/\w.grownBy w' (some g)
theorem stable_list{N:Nat}(hN:StableOk N){base g cap n:Nat}{P M S:List C}{w:World}(h:w.ownsRow base 275 2 (.slice (some ⟨g,0,none⟩) n cap) n (c2 (P++M++S)))(hm:M.length<=N)(o c:Nat)(ho:o=2*P.length) :
  Calls Tryz.prog 290 #[.slice (some ⟨g,o,none⟩) M.length c,.func (.func 291) #[] #[]] w (SortedRow base g cap n (P++isort M++S) w):=by
 subst ho
 have hH:=own_holds h
 have hC:=hN g (2*P.length) c M.toArray w hH.1 hH.2.1 (by simpa using hm)
 rw[List.size_toArray]at hC
 refine hC.mono ?_
 rintro e w' ⟨rfl,q,os,rfl⟩
 have:=own_put h (M':=isort M) (isort_len M) q os
 exact⟨rfl,this.1,this.2⟩
theorem arrange_any(N:Nat)(hN:StableOk N)(base g cap n:Nat)(l:List C)(w:World)(hl:n=l.length)(hn:n<=1000000)(hR:Runs N l)(hw:w.ownsRow base 275 2 (.slice (some ⟨g,0,none⟩) n cap) n (c2 l)) :
  Calls Tryz.prog 251 #[.slice (some ⟨g,0,none⟩) n cap] w (SortedRow base g cap n (arr [] l) w):=by
 have hcap:n<=cap:=by
  rcases hw.2 with ⟨h0,_⟩|⟨g',cap',cur,hv,hbase,hb,h1,h2,h3,ht⟩
  ·cases h0
  cases hv
  exact h1
 go_enter Tryz.func251,Tryz.ntmps251
 go_wp2
 go_loopg [0] n (fun k s0 wr => ∃ (P R:List C) (a:Option Addr) (c:Nat),s0 = .slice a R.length c/\k=R.length/\n=P.length+R.length/\R.length<=c/\Hid (0<R.length->a=some ⟨g,2*P.length,none⟩)/\Hid (Runs N R)/\wr.ownsRow base 275 2 (.slice (some ⟨g,0,none⟩) n cap) n (c2 (P++R))/\w.grownBy wr (some g)/\Hid (P++arr [] R=arr [] l))
 case atStart=>exact⟨[],l,some ⟨g,0,none⟩,cap,by rw[hl],hl,by simpa using hl,by omega,Lib.hid (fun _=>rfl),Lib.hid hR,hw,World.grownBy.refl _ _,Lib.hid rfl⟩
 case round =>
  obtain⟨P,R,a,c,rfl,rfl,hPR,hRc,HA,HRR,hO,hG,HE⟩:=hrel
  by_cases h0:0<R.length
  ·obtain rfl:=HA.out h0
   have h0z:(0:Int)<(R.length:Int):=by omega
   have HI:=Lib.hid (idx_any g (2*P.length) R.length c R wr rfl (by omega) (own_holds (P:=P) (M:=R) (S:=[]) (by simpa using hO)).2.1 (own_cells hO _ rfl))
   rcases cut_st R with hs|⟨T,x,S,rfl,hT,hx⟩
   ·rw[idx_miss hs]at HI
    have HAR:Hid (P++isort R=arr [] l):=Lib.hid (by rw[<-HE.out,arr_none hs])
    have HM:Hid (R.length<=N):=Lib.hid (HRR.out [] R [] (by simp) hs)
    have HL:=Lib.hid (fun (w4:World) (h:w4.ownsRow base 275 2 (.slice (some ⟨g,0,none⟩) n cap) n (c2 (P++R++[])))=>stable_list hN h HM.out (2*P.length) c rfl)
    have hO':wr.ownsRow base 275 2 (.slice (some ⟨g,0,none⟩) n cap) n (c2 (P++R++[])):=by rw[List.append_nil];exact hO
    clear hO HE HRR HA hs
    go_wp2_with(first|(go_at_call 289;refine HI.out.mono ?_;rintro e w4 ⟨rfl,hb4⟩)|(go_at_call 290;refine (HL.out _ (own_below hO' hb4)).mono ?_;rintro e w5 ⟨rfl,hO5,hG5⟩)|fail)
    all_goals
     go_roundg 0
     case measure=>omega
     case rel=>exact⟨P++isort R,[],_,_,slice_eq rfl (by simp;omega) rfl,rfl,by rw[List.length_append,isort_len];simpa using hPR,Nat.zero_le _,Lib.hid (fun h=>absurd h (by simp)),Lib.hid (runs_short (Nat.zero_le _)),hO5,World.grownBy.trans (gb_below hG hb4) hG5,Lib.hid (by rw[<-HAR.out];simp[arr,isort])⟩
   ·rw[idx_hit hT hx]at HI
    have hRl:(T++x::S).length=T.length+S.length+1:=by simp;omega
    have HAR:Hid (P++isort T++[x]++arr [] S=arr [] l):=Lib.hid (by rw[<-HE.out,arr_hit hT hx];simp)
    have HM:Hid (T.length<=N):=Lib.hid (HRR.out [] T (x::S) (by simp) hT)
    have HRS:Hid (Runs N S):=Lib.hid (Runs.tail (P:=T++[x]) (by simpa using HRR.out))
    have HL:=Lib.hid (fun (w4:World) (h:w4.ownsRow base 275 2 (.slice (some ⟨g,0,none⟩) n cap) n (c2 (P++T++x::S)))=>stable_list hN h HM.out (2*P.length) c rfl)
    have hO':wr.ownsRow base 275 2 (.slice (some ⟨g,0,none⟩) n cap) n (c2 (P++T++x::S)):=by rw[List.append_assoc];exact hO
    rw[hRl]at HI h0z h0 hPR hRc ⊢
    clear hO HE HRR HA hT hx
    go_wp2_with(first|(go_at_call 289;refine HI.out.mono ?_;rintro e w4 ⟨rfl,hb4⟩)|(go_at_call 290;refine (HL.out _ (own_below hO' hb4)).mono ?_;rintro e w5 ⟨rfl,hO5,hG5⟩)|fail)
    all_goals
     go_roundg S.length
     case measure=>omega
     case rel=>exact⟨P++isort T++[x],S,_,_,slice_eq rfl (by omega) rfl,rfl,by rw[List.length_append,List.length_append,isort_len];simp;omega,by omega,Lib.hid (fun h=>by first|(exfalso;omega)|(congr 2;rw[List.length_append,List.length_append,isort_len];simp;omega)),HRS,by simpa using hO5,World.grownBy.trans (gb_below hG hb4) hG5,HAR⟩
  ·obtain rfl:R=[]:=List.eq_nil_of_length_eq_zero (by omega)
   go_wp2_with fail
   go_end0
   refine⟨rfl, ?_,hG⟩
   rw[<-HE.out]
   simpa[arr,isort] using hO
end Go.Proofs.YtkibdkfdffkkfaaGreatDoor
namespace Go.Proofs.YtkibdkfdffkkfaaGreatDoor
open Go.RowKit Norm
theorem own_known{w:World}{base:Nat}{e:TypeId}{size n:Nat}{v:Value}{xs:List Value}(h:w.ownsRow base e size v n xs)(hn:0<n):∃ g c,v = .slice (some ⟨g,0,none⟩) n c/\n<=c/\c<=maxLen/\base<=g/\g<w.heap.size:=by
 rcases h.2 with ⟨rfl,rfl⟩|⟨g,cap,cur,rfl,hb,hg,hc,hm,_⟩
 ·omega
 ·exact⟨g,cap,rfl,hc,hm,hb,(Array.getElem?_eq_some_iff.1 hg).1⟩
theorem wpList_append_at{P:Program}(w:World){ops:Array Oper}{rest:List Oper}{o:Oper}{a:Act}{Q:Exit->Act->World->Prop}(hgd:o.guard=none)(s x:Operand)(t:TypeId)
  (ho:o.op = .call { callee:=.builtin .append,args:=#[s,x],argTypes:=#[t,t] })
  (base:Nat) (e:TypeId) (i:TypeInfo) (z:Value) (size bytes:Nat) (ht:P.underlying t=some (.slice e)) (hi:P.info? e=some i) (hz:i.zero=some z)
  (hsize:i.size=size) (hby:i.bytes=bytes) (hzs:z.cells.size=size) (hsz:0<size) (g n c:Nat) (xs:List Value) (hs:a.eval s = .slice (some ⟨g,0,none⟩) n c) (hown:w.ownsRow base e size (.slice (some ⟨g,0,none⟩) n c) n xs)
  (ad:Addr) (m c1:Nat) (news:List Value) (hx:a.eval x = .slice (some ad) m c1) (hl:news.length=m*size) (hnews:∀ j u,news[j]? = some u->w.cell? (ad.add j)=some u) (h1:∀ u∈news,u.oneCell'=true) (hm:0<n+m)
  (h63:n+m<=maxLen) (hbytes:(n+m)*bytes<=140737488355328) (hbase:base<=w.heap.size)
  (h:∀ g' c' w',w'.ownsRow base e size (.slice (some ⟨g',0,none⟩) (n+m) c') (n+m) (xs++news)->w.grownBy w' (some g)->(g'=g∨g'=w.heap.size)->wpList P ops Q rest (a.put o.dst (.slice (some ⟨g',0,none⟩) (n+m) c')) w'):wpList P ops Q (o::rest) a w:=by
 refine wpList_plain hgd fun K hK => ?_
 obtain⟨v',w',hr,h2,h3,_,h5⟩:=run_append_own_at (P:=P) w base t o.type e i z size bytes ht hi hz hsize hby hzs hsz _ n xs hown ad m c1 news hl hnews h1 h63 hbytes hbase
 obtain⟨g',c',rfl,_⟩:=own_known h2 hm
 unfold Oper.wp execOp
 simp only[ho,resolve,invoke,builtin,Sem.run_bind,Sem.run_pure,Result.andThen_ok,List.map_toArray,List.map_cons,List.map_nil,hs,hx,hr]
 exact hK _ _ (h g' c' w' h2 h3 (by simpa[Value.ownBlock] using h5))
theorem news_at{w:World}{cs:Array Value}{t:TypeId}{news:List Value}(h:cs.toList=news):∀ j u,news[j]? = some u->(w.alloc (.cells cs t)).cell? ((⟨w.heap.size,0,none⟩:Addr).add j)=some u:=by
 intro j u hu
 subst h
 rw[Go.WideShapes.add_plain,Nat.zero_add]
 rw[Array.getElem?_toList]at hu
 rw[<-hu]
 simp only[World.cell?,heap_alloc_new w (.cells cs t)]
 rfl
theorem info_classed:(Tryz.prog.info? 275).map (fun i=>(i.zero,i.size,i.bytes))=some (some (.agg #[.int .i32 0,.int .u8 0]),2,8):=by kernel_rfl
abbrev C32 (l:List Int):Prop:=∀ x∈l,-2147483648<=x/\x<=2147483647
def dec1 (r:Int):List C:=(full r).map classed
theorem dec_eq(l:List Int):dec l=l.flatMap dec1:=rfl
theorem dec_take{l:List Int}{k:Nat}(hk:k<l.length):dec (l.take (k+1))=dec (l.take k)++dec1 l[k]:=by
 rw[dec_eq,dec_eq,List.take_add_one,List.flatMap_append,List.getElem?_eq_getElem hk]
 simp
theorem dec1_len(r:Int):(dec1 r).length<=5:=by unfold dec1;rw[List.length_map];exact full_len r
theorem dec_len(l:List Int):(dec l).length<=l.length*5:=by
 induction l with
 | nil=>simp[dec]
 | cons x t ih=>rw[dec_eq]at ih ⊢;rw[List.flatMap_cons,List.length_append,List.length_cons];have:=dec1_len x;omega
theorem fullN_pos:∀ k r,0<(fullN k r).length
 | 0,r=>by simp[fullN]
 | k + 1, r => by
  unfold fullN
  split
  ·exact fullN_pos k _
  ·split
   ·exact fullN_pos k _
   ·split<;>simp
theorem full_pos(r:Int):0<(full r).length:=fullN_pos 4 r
theorem arr_length:∀ (l acc:List C),(arr acc l).length=acc.length+l.length
 | [],acc=>by simp[arr,isort_len]
 | c :: t, acc => by
  unfold arr
  split
  ·rw[List.length_append,List.length_cons,arr_length t [],isort_len];simp
  ·rw[arr_length t (acc++[c])];simp;omega
theorem arr_len(l:List C):(arr [] l).length=l.length:=by rw[arr_length];simp
def Made2 (w:World) (l:List C) (e:Ending) (w':World):Prop :=
 ∃ g c,e = .returned (.slice (some ⟨g,0,none⟩) l.length c)/\w'.ownsRow w.heap.size 275 2 (.slice (some ⟨g,0,none⟩) l.length c) l.length (c2 l)/\Below w.heap.size w w'
theorem run_ccc(p:List Int)(w:World):(Instr.field 281 (pv p) 3).run Tryz.prog w = .ok (.int .u8 (Ucd.g p 3)) w:=by kernel_rfl
theorem decompose_any(N:Nat)(hN:StableOk N)(l:List Int)(A:Option Addr)(cap:Nat)(w:World)(hl:l.length<=4000)(hC:C32 l)(hr:Row w w.heap.size A (cl .i32 l))(hR:Runs N (dec l)) :
  Calls Tryz.prog 197 #[.slice A l.length cap] w (Made2 w (arr [] (dec l))):=by
 obtain⟨i0,hi,hz0,hz1,hz2⟩:=info_split info_classed
 have HZ:=Lib.hid hz2
 go_enter Tryz.func197,Tryz.ntmps197
 go_wp2_with(first|(at_make;refine wpList_make_own _ rfl _ _ 233 rfl w.heap.size 275 i0 _ 2 Tryz.underlying233 hi hz0 hz1 .i64 .i64 _ l.length rfl rfl rfl (by rw[HZ.out];omega) (by unfold maxLen;omega) (Nat.le_refl _) ?_;intro w1 hown1 hgrow1)|fail)
 have hB1:Below w.heap.size w w1:=(Below.refl _ _).grown hgrow1 (Nat.le_refl _) (fun j e=>by cases e)
 go_loopg [3,13] l.length (fun m s3 s13 wr => ∃ k g c:Nat,s13 = .int .i64 (k:Int)/\m=l.length-k/\k<=l.length/\s3 = .slice (some ⟨g,0,none⟩) (dec (l.take k)).length c/\wr.ownsRow w.heap.size 275 2 (.slice (some ⟨g,0,none⟩) (dec (l.take k)).length c) (dec (l.take k)).length (c2 (dec (l.take k)))/\Below w.heap.size w wr)
 case atStart=>exact⟨0,w.heap.size,l.length,rfl,rfl,Nat.zero_le _,rfl,hown1,hB1⟩
 case round =>
  obtain⟨k,g,c,rfl,rfl,hk,rfl,hO,hB⟩:=hrel
  by_cases hlt:k<l.length
  ·have hltz:(k:Int)<(l.length:Int):=by omega
   obtain⟨r,hx⟩:∃ r,l[k]=r:=⟨_,rfl⟩
   have hx32:=hC _ (List.getElem_mem hlt)
   have hdt:=dec_take hlt
   obtain⟨b0,o0,rfl,hb0,hcc⟩:=(hr.below hB).at_ (by simp;omega)
   have c0:=hcc k (by simpa using hlt)
   rw[List.getElem?_map,List.getElem?_eq_getElem hlt,Option.map_some,hx]at c0
   rw[hx]at hx32 hdt
   clear hcc hx
   have HDT:=Lib.hid hdt
   have HS:=Lib.hid (fun w=>Split_any r w hx32.1 hx32.2)
   have hfl:=full_len r
   have hfp:=full_pos r
   have hnl:(dec (l.take k)).length<=20000:=by have:=dec_len (l.take k);rw[List.length_take]at this;omega
   clear hdt
   go_wp2_with(first|(go_at_call 249;refine (HS.out _).mono ?_;rintro e w2 ⟨v2,rfl,ho2',hb2⟩;obtain⟨g2,q2,rfl,hq2,hq3,hg2,hg3⟩:=own_known ho2' (by simp;exact hfp))|fail)
   have hgl:=hO.lt g rfl
   have hne:g≠g2:=by omega
   have hcs:∀ t,t<(full r).length->w2.cell? ⟨g2,t,none⟩=some (.int .i32 (full r)[t]!):=by
    intro t ht
    have h:=World.ownsRow.cellAt ho2' t (by simpa using ht)
    rw[h,List.nil_append,List.getElem?_map,List.getElem?_eq_getElem ht,getElem!_pos _ t ht]
    rfl
   have hO2:=own_below hO hb2
   have hB2:=hB.trans (hb2.mono hB.size)
   clear ho2' hq2 hq3 hO HS hb2 c0 hx32 hR hN hC hgl hg2 hb0
   obtain⟨D,hD⟩:∃ D,dec (l.take k)=D:=⟨_,rfl⟩
   rw[hD]at HDT hO2 hnl ⊢
   clear hD
   obtain⟨F,hF⟩:∃ F,full r=F:=⟨_,rfl⟩
   have HDT2:Hid (dec (l.take (k+1))=D++F.map classed):=Lib.hid (by rw[<-hF];exact HDT.out)
   rw[hF]at hcs hfl hfp ⊢
   clear HDT hF
   go_loopg [3,20] F.length (fun m s3 s20 w3 => ∃ j g' c':Nat,s20 = .int .i64 (j:Int)/\m=F.length-j/\j<=F.length/\s3 = .slice (some ⟨g',0,none⟩) (D.length+j) c'/\w3.ownsRow w.heap.size 275 2 (.slice (some ⟨g',0,none⟩) (D.length+j) c') (D.length+j) (c2 (D++(F.take j).map classed))/\Below w.heap.size w w3/\g'≠g2/\g2<w3.heap.size/\Hid (∀ t,t<F.length->w3.cell? ⟨g2,t,none⟩=some (.int .i32 F[t]!)))
   case atStart=>exact⟨0,g,c,rfl,rfl,Nat.zero_le _,rfl,by simpa using hO2,hB2,hne,hg3,Lib.hid hcs⟩
   case round =>
    obtain⟨j,g',c',rfl,rfl,hj,rfl,hO3,hB3,hne3,hlt3,HCS⟩:=hrel
    by_cases hjl:j<F.length
    ·have hjz:(j:Int)<(F.length:Int):=by omega
     have c3:=HCS.out j hjl
     have HNX:Hid (F.take (j+1)=F.take j++[F[j]!]):=Lib.hid (by rw[List.take_add_one,List.getElem?_eq_getElem hjl,getElem!_pos _ j hjl];rfl)
     obtain⟨x,hx⟩:∃ x,F[j]! = x:=⟨_,rfl⟩
     rw[hx]at c3 HNX
     clear hx
     have HOF:=Lib.hid (fun w=>Of_any x w)
     have HRC:=run_ccc (Ucd.of x)
     obtain⟨p,hp⟩:∃ p,Ucd.of x=p:=⟨_,rfl⟩
     have HP:Hid (encC (classed x)=[.int .i32 x,.int .u8 (Ucd.g p 3)]):=Lib.hid (by rw[<-hp];rfl)
     rw[hp]at HOF HRC
     clear hp
     go_wp2_with(first|(go_at_call 250;refine (HOF.out _).mono ?_;rintro e w4 ⟨rfl,hb4⟩;have hO4:=own_below hO3 hb4;have hB4:=hB3.trans (hb4.mono hB3.size))|(at_builtin;refine wpList_append_at _ rfl _ _ 233 rfl w.heap.size 275 i0 _ 2 8 Tryz.underlying233 hi hz0 hz1 hz2 rfl (by decide) g' (D.length+j) c' _ rfl (hO4.alloc _) ⟨w4.heap.size,0,none⟩ 1 1 [.int .i32 x,.int .u8 (Ucd.g p 3)] rfl rfl (news_at rfl) (by simp[Value.oneCell']) (by omega) (by unfold maxLen;omega) (by omega) (hB4.alloc hB4.size _).size ?_;intro g5 c5 w5 hown5 hg5 hor5)|fail)
     have hgl3:=(hO3.lt g' rfl).1
     have hBx:Below wr.heap.size wr (w4.alloc (.cells #[.int .i32 x,.int .u8 (Ucd.g p 3)] 275)):=hb4.alloc hb4.size _
     have hB5:Below w.heap.size w w5:=(hB4.alloc hB4.size _).grown hg5 (hB4.alloc hB4.size _).size (fun k e=>by cases e;exact hgl3)
     have hsz:=hBx.size
     go_roundg (F.length-(j+1))
     case measure=>omega
     case rel =>
      refine⟨j+1,g5,c5,by go_num,rfl,by omega,rfl, ?_,hB5, ?_,Nat.lt_of_lt_of_le hlt3 (Nat.le_trans hsz hg5.size),Lib.hid fun t ht => ?_⟩
      ·rw[HNX.out,List.map_append,<-List.append_assoc,c2_append]
       have e:c2 ([x].map classed)=[.int .i32 x,.int .u8 (Ucd.g p 3)]:=by rw[<-HP.out];simp[c2]
       rw[e]
       exact hown5
      ·rcases hor5 with rfl|rfl
       ·exact hne3
       ·omega
      ·rw[<-HCS.out t ht,<-hBx.cell (p:=⟨g2,t,none⟩) hlt3]
       exact World.cell?_of_block (hg5.block g2 (Nat.lt_of_lt_of_le hlt3 hsz) (by simpa using Ne.symm hne3))
    ·obtain rfl:j=F.length:=by omega
     have hjz:¬ ((F.length:Nat):Int)<(F.length:Int):=by omega
     go_wp2_with fail
     go_roundg (l.length-(k+1))
     case measure=>omega
     case rel =>
      refine⟨k+1,g',c',by go_num,rfl,by omega, ?_, ?_,hB3⟩
      ·rw[HDT2.out,List.length_append,List.length_map]
      ·rw[HDT2.out,List.length_append,List.length_map]
       rw[List.take_length]at hO3
       exact hO3
  ·obtain rfl:k=l.length:=by omega
   have hltz:¬ ((l.length:Nat):Int)<(l.length:Int):=by omega
   rw[List.take_length]at hO ⊢
   have HA:=Lib.hid (fun (w:World) base (h:w.ownsRow base 275 2 (.slice (some ⟨g,0,none⟩) (dec l).length c) (dec l).length (c2 (dec l)))=>arrange_any N hN base g c (dec l).length (dec l) w rfl (by have:=dec_len l;omega) hR h)
   have hln:(arr [] (dec l)).length=(dec l).length:=arr_len _
   have hgl:=(hO.lt g rfl).1
   clear hN hC hR
   go_wp2_with(first|(go_at_call 251;refine (HA.out _ _ hO).mono ?_;rintro e w5 ⟨rfl,hO5,hg5⟩)|fail)
   go_ret
   exact⟨g,c,by rw[hln];rfl,by rw[hln];exact hO5,hB.grown hg5 hB.size (fun k e=>by cases e;exact hgl)⟩
theorem of_wf32{a:Int}(h:-2147483648<=a/\a<=2147483647):(Lit.int .i32 a).wf=true:=WalkArith.wf_i32 h
theorem pjN_wf{j:Nat}{a b r:Int}(h:pjN j a b=some r):0<=r/\r<=20000:=by
 unfold pjN at h
 rw[Option.map_eq_some_iff]at h
 obtain⟨t,ht,rfl⟩:=h
 have h1:=List.mem_of_find?_eq_some ht
 have hb:tabP.all (fun t=>decide (0<=t.1/\t.1<=20000))=true:=by kernel_rfl
 have:=List.all_eq_true.1 hb t (List.mem_of_mem_take h1)
 simpa using this
theorem sylJoin_wf{a b r:Int}(h:sylJoin a b=some r):44032<=r/\r<=55203:=by
 unfold sylJoin at h
 split at h
 ·cases h;omega
 ·split at h
  ·cases h;omega
  ·cases h
theorem jn_wf{a b r:Int}(h:jn a b=some r):0<=r/\r<=55203:=by
 unfold jn at h
 cases hs:sylJoin a b with
 | some q=>rw[hs]at h;cases h;have:=sylJoin_wf hs;omega
 | none=>rw[hs]at h;have:=pjN_wf h;omega
theorem pairR_wf{r:Int}{p:Int × Int}(h:pairR r=some p):0<=p.1/\p.1<=20000/\768<=p.2/\p.2<=20000:=by
 unfold pairR at h
 rw[Option.map_eq_some_iff]at h
 obtain⟨t,ht,rfl⟩:=h
 have h1:=List.mem_of_find?_eq_some ht
 have hb:tabP.all (fun t=>decide (0<=t.2.1/\t.2.1<=20000/\768<=t.2.2/\t.2.2<=20000))=true:=by kernel_rfl
 have:=List.all_eq_true.1 hb t h1
 simpa using this
theorem spl_wf{r:Int}{p:Int × Int}(h:spl r=some p):0<=p.1/\p.1<=55203/\0<=p.2/\p.2<=20000:=by
 unfold spl at h
 split at h
 ·rename_i hs
  have hr:44032<=r/\r<=55203:=by simpa[syl] using hs
  cases h
  unfold sylParts
  split<;>(dsimp only;omega)
 ·have:=pairR_wf h;omega
theorem fullN_c32:∀ k r,-2147483648<=r/\r<=2147483647->C32 (fullN k r)
 | 0,r,h=>by intro x hx;simp[fullN]at hx;omega
 | k + 1, r, h => by
  unfold fullN
  split
  ·exact fullN_c32 k _ (by omega)
  ·split
   ·exact fullN_c32 k _ (by omega)
   ·split
    ·rename_i p hp
     have hw:=spl_wf hp
     intro x hx
     rcases List.mem_append.1 hx with hx|hx
     ·exact fullN_c32 k _ (by omega) x hx
     ·simp at hx;omega
    ·intro x hx;simp at hx;omega
abbrev W2 (l:List C):Prop:=∀ x∈l,-2147483648<=x.1/\x.1<=2147483647
theorem dec_w2{l:List Int}(h:C32 l):W2 (dec l):=by
 intro x hx
 obtain⟨r,hr,hx⟩:=List.mem_flatMap.1 hx
 obtain⟨y,hy,rfl⟩:=List.mem_map.1 hx
 exact fullN_c32 4 r (h r hr) y hy
theorem mem_isort(l:List C)(x:C):x∈isort l↔x∈l:=⟨fun h=>(isort_stb l).symm.mem h,fun h=>(isort_stb l).mem h⟩
theorem mem_arr:∀ (l acc:List C) (x:C),x∈arr acc l↔x∈acc∨x∈l
 | [],acc,x=>by simp[arr,mem_isort]
 | c :: t, acc, x => by
  unfold arr
  split
  ·rw[List.mem_append,List.mem_cons,mem_arr t [],mem_isort,List.mem_cons];simp
  ·rw[mem_arr t (acc++[c])];simp[or_assoc]
theorem arr_w2{l:List C}(h:W2 l):W2 (arr [] l):=fun x hx=>h x (by simpa using (mem_arr l [] x).1 hx)
def St.inv (k:Nat) (s:St):Prop:=s.out.length<=k/\(s.st = -1∨(0<=s.st/\s.st<s.out.length))/\C32 s.out
def St.may (s:St) (c:C):Prop:=0<=s.st/\(s.st=(s.out.length:Int)-1∨s.last<c.2)
instance (s:St) (c:C):Decidable (s.may c):=inferInstanceAs (Decidable (_/\_))
theorem step_no{s:St}{c:C}(h:¬ s.may c):s.step c=s.push c:=by unfold St.step;exact if_neg h
theorem step_none{s:St}{c:C}(h:jn (s.out.getD s.st.toNat 0) c.1=none):s.step c=s.push c:=by unfold St.step;rw[h];simp
theorem step_some{s:St}{c:C}{r:Int}(h:s.may c)(h2:jn (s.out.getD s.st.toNat 0) c.1=some r):s.step c=⟨s.out.set s.st.toNat r,s.st,s.last⟩:=by unfold St.step;rw[h2];exact if_pos h
theorem push_inv{k:Nat}{s:St}{c:C}(h:s.inv k)(hc:-2147483648<=c.1/\c.1<=2147483647):(s.push c).inv (k+1):=by
 obtain⟨h1,h2,h3⟩:=h
 refine⟨by simp[St.push];omega, ?_, ?_⟩
 ·unfold St.push
  dsimp only
  rw[List.length_append,List.length_singleton]
  split
  ·omega
  ·omega
 ·intro x hx
  rcases List.mem_append.1 hx with hx|hx
  ·exact h3 x hx
  ·simp at hx;rw[hx];exact hc
theorem step_inv{k:Nat}{s:St}{c:C}(h:s.inv k)(hc:-2147483648<=c.1/\c.1<=2147483647):(s.step c).inv (k+1):=by
 by_cases hm:s.may c
 ·cases hj:jn (s.out.getD s.st.toNat 0) c.1 with
  | none=>rw[step_none hj];exact push_inv h hc
  | some r =>
   rw[step_some hm hj]
   obtain⟨h1,h2,h3⟩:=h
   refine⟨by simp;omega,by simpa using h2, ?_⟩
   intro x hx
   rcases List.mem_or_eq_of_mem_set hx with hx|rfl
   ·exact h3 x hx
   ·have:=jn_wf hj;omega
 ·rw[step_no hm];exact push_inv h hc
def stAt (l:List C) (k:Nat):St:=(l.take k).foldl St.step ⟨[],-1,0⟩
theorem stAt_succ{l:List C}{k:Nat}(hk:k<l.length):stAt l (k+1)=(stAt l k).step l[k]:=by
 unfold stAt
 rw[List.take_add_one,List.foldl_append,List.getElem?_eq_getElem hk]
 rfl
theorem stAt_inv{l:List C}(h:W2 l):∀ k,k<=l.length->(stAt l k).inv k
 | 0,_=>⟨Nat.le_refl _,.inl rfl,by intro x hx;simp[stAt]at hx⟩
 | k+1,hk=>by rw[stAt_succ (by omega)];exact step_inv (stAt_inv h k (by omega)) (h _ (List.getElem_mem (by omega)))
theorem comp_at(l:List C):comp l=(stAt l l.length).out:=by unfold comp stAt;rw[List.take_length]
section
variable {P:Program} (w:World)
theorem step_append_at{ops:Array Oper}{o:Oper}{a:Act}{K:Act->World->Prop}{Q:Exit->Act->World->Prop}{E:Prop}(hgd:o.guard=none)(s x:Operand)(t:TypeId)
  (ho:o.op = .call { callee:=.builtin .append,args:=#[s,x],argTypes:=#[t,t] })
  (base:Nat) (e:TypeId) (i:TypeInfo) (z:Value) (size bytes:Nat) (ht:P.underlying t=some (.slice e)) (hi:P.info? e=some i) (hz:i.zero=some z)
  (hsize:i.size=size) (hby:i.bytes=bytes) (hzs:z.cells.size=size) (hsz:0<size) (g n c:Nat) (xs:List Value) (hs:a.eval s = .slice (some ⟨g,0,none⟩) n c) (hown:w.ownsRow base e size (.slice (some ⟨g,0,none⟩) n c) n xs)
  (ad:Addr) (m c1:Nat) (news:List Value) (hx:a.eval x = .slice (some ad) m c1) (hl:news.length=m*size) (hnews:∀ j u,news[j]? = some u->w.cell? (ad.add j)=some u) (h1:∀ u∈news,u.oneCell'=true) (hm:0<n+m)
  (h63:n+m<=maxLen) (hbytes:(n+m)*bytes<=140737488355328) (hbase:base<=w.heap.size)
  (h:∀ g' c' w',w'.ownsRow base e size (.slice (some ⟨g',0,none⟩) (n+m) c') (n+m) (xs++news)->w.grownBy w' (some g)->(g'=g∨g'=w.heap.size)->K (a.put o.dst (.slice (some ⟨g',0,none⟩) (n+m) c')) w'):if Region.wanted o (yielded ops a.tmps)=true then Oper.wp P o a w K Q else E:=by
 rw[if_pos (show Region.wanted o (yielded ops a.tmps)=true by simp[Region.wanted,hgd])]
 obtain⟨v',w',hr,h2,h3,_,h5⟩:=run_append_own_at (P:=P) w base t o.type e i z size bytes ht hi hz hsize hby hzs hsz _ n xs hown ad m c1 news hl hnews h1 h63 hbytes hbase
 obtain⟨g',c',rfl,_⟩:=own_known h2 hm
 unfold Oper.wp execOp
 simp only[ho,resolve,invoke,builtin,Sem.run_bind,Sem.run_pure,Result.andThen_ok,List.map_toArray,List.map_cons,List.map_nil,hs,hx,hr]
 exact h g' c' w' h2 h3 (by simpa[Value.ownBlock] using h5)
end
def Made1 (w:World) (l:List Int) (e:Ending) (w':World):Prop :=
 ∃ g c,e = .returned (.slice (some ⟨g,0,none⟩) l.length c)/\w'.ownsRow w.heap.size 21 1 (.slice (some ⟨g,0,none⟩) l.length c) l.length (cl .i32 l)/\Below w.heap.size w w'
theorem boxC{w:World}{X:Nat}{a b:Value}{t:TypeId}(h:w.heap[X]? = some (.cells #[a,b] t (0,0))) :
  w.cell? ⟨X,0,none⟩=some a/\w.cell? ⟨X,1,none⟩=some b/\w.frozen? ⟨X,0,none⟩=false/\w.frozen? ⟨X,1,none⟩=false:=by
 simp[World.cell?,World.frozen?,h]
theorem box3c{w:World}{X:Nat}{a b:Value}{t:TypeId}(h:w.heap[X]? = some (.cells #[a,b] t (0,0))) :
  w.cell? ⟨X,0,none⟩=some a/\w.cell? ⟨X,1,none⟩=some b/\w.heap[X]? = some (.cells #[a,b] t (0,0)):=⟨(boxC h).1,(boxC h).2.1,h⟩
theorem own_cell{w:World}{base g c n:Nat}{out:List Int}(h:w.ownsRow base 21 1 (.slice (some ⟨g,0,none⟩) n c) n (cl .i32 out)){q:Nat}(hq:q<n){y:Int}(hy:out[q]? = some y):w.cell? ⟨g,q,none⟩=some (.int .i32 y):=by
 rw[World.ownsRow.cellAt h q (by omega),List.getElem?_map,hy]
 rfl
theorem own_frozen{w:World}{base g c n:Nat}{xs:List Value}{e:TypeId}{size:Nat}(h:w.ownsRow base e size (.slice (some ⟨g,0,none⟩) n c) n xs)(i:Nat):w.frozen? ⟨g,i,none⟩=false:=by
 rcases h.2 with ⟨h0,_⟩|⟨g',cap',cur,hv,_,hb,_⟩
 ·cases h0
 cases hv
 simp[World.frozen?,hb]
theorem gb_undrew{w w':World}{r:Option Nat}(h:w.drew.grownBy w' r):w.grownBy w' r:=⟨h.os,h.tape,h.output,h.size,h.block⟩
theorem row_c2{w:World}{b o:Nat}{l:List C}{k:Nat}{x:C}(hcc:∀ k,k<(c2 l).length->w.cell? ⟨b,o+k,none⟩=(c2 l)[k]?)(hx:l[k]? = some x) :
  w.cell? ⟨b,o+k*2,none⟩=some (.int .i32 x.1)/\w.cell? ⟨b,o+k*2+1,none⟩=some (.int .u8 x.2):=by
 have hk:k<l.length:=(List.getElem?_eq_some_iff.1 hx).1
 have hv:l[k]=x:=(List.getElem?_eq_some_iff.1 hx).2
 have h0:=hcc (k*2) (by rw[c2_len];omega)
 have h1:=hcc (k*2+1) (by rw[c2_len];omega)
 rw[c2_get _ _ (by omega)]at h0 h1
 rw[show k*2/2=k from by omega,show k*2%2=0 from by omega,getElem!_pos l k hk,hv]at h0
 rw[show (k*2+1)/2=k from by omega,show (k*2+1)%2=1 from by omega,getElem!_pos l k hk,hv]at h1
 exact⟨h0,h1⟩
theorem compose_any(l:List C)(A:Option Addr)(cap:Nat)(w:World)(hl:l.length<=20000)(hC:W2 l)(hr:Row w w.heap.size A (c2 l)) :
  Calls Tryz.prog 196 #[.slice A l.length cap] w (Made1 w (comp l)):=by
 obtain⟨i0,hi,hz0,hz1,hz2⟩:=info_split info_int32
 have HZ:=Lib.hid hz2
 have HC:=Lib.hid compositions_any
 have HJ:=Lib.hid joinP_any
 go_enter Tryz.func196,Tryz.ntmps196
 go_wp2_with(first|(go_at_call 246;refine (HC.out _).mono ?_;rintro e w1 ⟨rfl,hm1,hb1⟩)|(at_make;refine wpList_make_own _ rfl _ _ 22 rfl w.heap.size 21 i0 _ 1 Tryz.underlying22 hi hz0 hz1 .i64 .i64 _ l.length rfl rfl rfl (by rw[HZ.out];omega) (by unfold maxLen;omega) hb1.size ?_;intro w2 hown2 hgrow2)|fail)
 have hB2:Below w.heap.size w w2:=hb1.grown hgrow2 hb1.size (fun j e=>by cases e)
 have hM2:PMap w2 w.heap.size 81:=hm1.kept hgrow2 (by simp)
 have hlt2:w.heap.size<w1.heap.size:=hm1.lt
 clear HC hm1 hb1
 go_loopg [4,5,6,17] l.length (fun m s4 s5 s6 s17 wr => ∃ k g c:Nat,s17 = .int .i64 (k:Int)/\m=l.length-k/\k<=l.length/\s4 = .slice (some ⟨g,0,none⟩) (stAt l k).out.length c/\s5 = .int .i64 (stAt l k).st/\s6 = .int .u8 (stAt l k).last /\
  wr.ownsRow w.heap.size 21 1 (.slice (some ⟨g,0,none⟩) (stAt l k).out.length c) (stAt l k).out.length (cl .i32 (stAt l k).out)/\Below w.heap.size w wr/\PMap wr w.heap.size 81/\g≠w.heap.size)
 case atStart=>exact⟨0,w1.heap.size,l.length,rfl,rfl,Nat.zero_le _,rfl,rfl,rfl,hown2,hB2,hM2,by omega⟩
 case round =>
  obtain⟨k,g,c,rfl,rfl,hk,rfl,rfl,rfl,hO,hB,hM,hgne⟩:=hrel
  by_cases hlt:k<l.length
  ·have hltz:(k:Int)<(l.length:Int):=by omega
   obtain⟨x,hx⟩:∃ x,l[k]=x:=⟨_,rfl⟩
   have hxw:=hC _ (List.getElem_mem hlt)
   have HST:=Lib.hid (stAt_succ hlt)
   have hinv:=stAt_inv hC k hk
   rw[hx]at hxw HST
   have hx':l[k]? = some x:=by rw[List.getElem?_eq_getElem hlt,hx]
   obtain⟨b0,o0,rfl,hb0,hcc⟩:=(hr.below hB).at_ (by rw[c2_len];omega)
   obtain⟨c0,c1⟩:=row_c2 hcc hx'
   obtain⟨s,hs⟩:∃ s,stAt l k=s:=⟨_,rfl⟩
   rw[hs]at HST hinv hO ⊢
   obtain⟨out,st,last⟩:=s
   obtain⟨x1,x2⟩:=x
   have HINV:=Lib.hid hinv
   obtain⟨i1,i2,i3⟩:=hinv
   dsimp only at i1 i2 i3 hO c0 c1 hxw ⊢
   clear hcc hx hx' hs hC
   go_upto_region 8 with fail
   have hg4:=alloc_heap_new' wr (.cells #[.int .i32 x1,.int .u8 x2] 275)
   have hO4:=hO.alloc (.cells #[.int .i32 x1,.int .u8 x2] 275)
   have hB4:Below w.heap.size w (wr.alloc (.cells #[.int .i32 x1,.int .u8 x2] 275)):=hB.alloc hB.size _
   have hM4:=hM.below ((Below.refl _ wr).alloc (Nat.le_refl _) (.cells #[.int .i32 x1,.int .u8 x2] 275))
   have hgX:g≠wr.heap.size:=by have:=(hO.lt g rfl).2;omega
   have hXw:w.heap.size≠wr.heap.size:=by have:=hM.lt;omega
   have hgb:=(hO.lt g rfl).1
   generalize wr.alloc (.cells #[.int .i32 x1,.int .u8 x2] 275)=W at hg4 hO4 hB4 hM4 ⊢
   generalize wr.heap.size=X at hg4 hgX hXw ⊢
   obtain⟨d0,d1,f0,f1⟩:=boxC hg4
   have hXl:X<W.heap.size:=(Array.getElem?_eq_some_iff.1 hg4).1
   clear hO hB hM c0 c1 hb0
   by_cases hmay:0<=st/\(st=(out.length:Int)-1∨last<x2)
   ·obtain⟨q,rfl⟩:∃ q:Nat,st=(q:Int):=⟨st.toNat,by omega⟩
    have hq:q<out.length:=by omega
    have hgl:g<W.heap.size:=(hO4.lt g rfl).2
    go_cut [35] (fun s35 wx=>s35 = .bool true/\wx=W)
    case first =>
     have hst:(0:Int)<=(q:Int):=by omega
     by_cases ha:(out.length:Int)-1=(q:Int)
     ·go_wp2_with fail
      go_meet
      exact⟨rfl,rfl⟩
     ·have hb:last<x2:=by omega
      have ha':¬ (q:Int)=(out.length:Int)-1:=fun h=>ha h.symm
      go_wp2_with fail
      go_meet
      exact⟨rfl,rfl⟩
    case rest =>
     obtain⟨rfl,hwc⟩:=hcut
     rw[hwc]
     clear hwc
     have HMAY0:=Lib.hid hmay
     clear hmay
     have hqz:(q:Int)<(out.length:Int):=by omega
     have HMAY:Hid (St.may ⟨out,(q:Int),last⟩ (x1,x2)):=Lib.hid (HMAY0.out)
     have hoq:=own_cell hO4 (by simpa using hq) (List.getElem?_eq_getElem hq)
     have hof:=own_frozen hO4 q
     have how:=i3 _ (List.getElem_mem hq)
     have HGD:Hid (out.getD q 0=out[q]):=Lib.hid (by rw[List.getD_eq_getElem?_getD,List.getElem?_eq_getElem hq];rfl)
     obtain⟨y,hy⟩:∃ y,out[q]=y:=⟨_,rfl⟩
     rw[hy]at hoq how HGD
     clear hy
     have HJJ:Hid (∀ (V:World),PMap V w.heap.size 81->Calls Tryz.prog 247 #[.map (some w.heap.size),.agg #[.int .i32 y,.int .i32 x1]] V (Tells (.tuple #[.int .i32 ((jn y x1).getD 0),.bool (jn y x1).isSome]) V)):=Lib.hid (fun V hV=>joinP_any _ _ _ V hV (of_wf32 how) (of_wf32 hxw))
     cases hj:jn y x1 with
     | some r =>
      rw[hj]at HJJ
      have HSE:Hid (stAt l (k+1)=⟨out.set q r,(q:Int),last⟩):=Lib.hid (by rw[HST.out,step_some HMAY.out (by rw[<-hj,<-HGD.out];rfl)];rfl)
      clear hj
      go_upto_region 9 with fail
      go_region_held3 (fun w'=>w'.cell? ⟨X,0,none⟩=some (.int .i32 x1)/\w'.cell? ⟨g,q,none⟩=some (.int .i32 y)) (first|exact⟨d0,hoq⟩|exact⟨(hbJ.cell (p:=⟨X,0,none⟩) hXl).trans d0,(hbJ.cell (p:=⟨g,q,none⟩) hgl).trans hoq⟩) (first
       | (go_at_call 247;refine (HJJ.out _ (by first|exact hM4|exact hM4)).mono ?_;rintro e wJ ⟨rfl,hbJ'⟩;have hbJ:Below W.heap.size W wJ:=(by first|exact hbJ'|exact below_undrew hbJ'))
       | fail)
      all_goals (
       have hOJ:=own_below hO4 hbJ
       have hMJ:=hM4.below hbJ
       have hBJ:=hB4.trans (hbJ.mono hB4.size)
       have k0:wJ.cell? ⟨g,q,none⟩=some (.int .i32 y):=(hbJ.cell (p:=⟨g,q,none⟩) hgl).trans hoq
       have k1:=own_frozen hOJ q
       go_wp2_with fail
       go_roundg (l.length-(k+1))
       case measure=>omega
       case rel =>
        have hs:=World.ownsRow.stored hOJ q (.int .i32 r)
        refine⟨k+1,g,c,by go_num,rfl,by omega,by rw[HSE.out,List.length_set],by rw[HSE.out],by rw[HSE.out], ?_,hBJ.grown hs.2 hBJ.size (fun k e=>by cases e;exact hgb),hMJ.kept hs.2 (by simpa using Ne.symm hgne),hgne⟩
        rw[HSE.out,List.length_set]
        have e:=hs.1
        rw[show (cl .i32 out).set q (.int .i32 r)=cl .i32 (out.set q r) from by simp[cl,List.map_set]]at e
        exact e)
     | none =>
      rw[hj]at HJJ
      have HSTQ:Hid (stAt l (k+1)=St.push ⟨out,(q:Int),last⟩ (x1,x2)):=Lib.hid (by rw[HST.out,step_none (by rw[<-hj,<-HGD.out];rfl)])
      clear hj
      go_upto_region 9 with fail
      go_region_held3 (fun w'=>w'.cell? ⟨X,0,none⟩=some (.int .i32 x1)/\w'.cell? ⟨g,q,none⟩=some (.int .i32 y)) (first|exact⟨d0,hoq⟩|exact⟨(hbJ.cell (p:=⟨X,0,none⟩) hXl).trans d0,(hbJ.cell (p:=⟨g,q,none⟩) hgl).trans hoq⟩) (first
       | (go_at_call 247;refine (HJJ.out _ (by first|exact hM4|exact hM4)).mono ?_;rintro e wJ ⟨rfl,hbJ'⟩;have hbJ:Below W.heap.size W wJ:=(by first|exact hbJ'|exact below_undrew hbJ'))
       | fail)
      have hOJ:=own_below hO4 hbJ
      have hMJ:=hM4.below hbJ
      have hBJ:=hB4.trans (hbJ.mono hB4.size)
      have hgJ:=(hbJ.block X hXl).trans hg4
      obtain⟨d0',d1',f0',f1'⟩:=boxC hgJ
      clear hoq hof
      have HSE:Hid (stAt l (k+1)=St.push ⟨out,(q:Int),last⟩ (x1,x2)):=Lib.hid (HSTQ.out)
      by_cases h0:x2=0
      ·have HIS:Hid (isSt (x1,x2)=true):=Lib.hid (isSt_true.2 h0)
       have HST5:Hid ((stAt l (k+1)).st=((out.length:Nat):Int)):=Lib.hid (by rw[HSE.out];simp[St.push,h0])
       clear h0
       go_upto_region 14 with(first|(go_at_call 248;refine (starter_any wJ wJ (x1,x2) (Below.refl _ _)).mono ?_;rw[HIS.out];rintro e w5 ⟨rfl,hb5⟩)|fail)
       have hO5:=own_below hOJ hb5
       have hM5:=(hMJ).below hb5
       have hB5:=hBJ.trans (hb5.mono hBJ.size)
       have hg5:=(hb5.block X (Array.getElem?_eq_some_iff.1 hgJ).1).trans hgJ
       have hX5:X<w5.heap.size:=(Array.getElem?_eq_some_iff.1 hg5).1
       clear hb5
       obtain⟨q0,q1,hg5'⟩:=box3c hg5
       go_region_held3 (fun w'=>w'.cell? ⟨X,0,none⟩=some (.int .i32 x1)/\w'.cell? ⟨X,1,none⟩=some (.int .u8 x2)/\w'.heap[X]? = some (.cells #[.int .i32 x1,.int .u8 x2] 275 (0,0))) (first|exact box3c hg5|exact box3c (alloc_old _ hg5)|exact box3c hx6) (first
        | (refine step_append_at _ ?_ (.tmp 57) (.tmp 60) 22 ?_ w.heap.size 21 i0 (.int .i32 0) 1 4 Tryz.underlying22 hi hz0 hz1 hz2 rfl (Nat.zero_lt_succ 0) g out.length c (cl .i32 out) ?_ ?_ ⟨w5.heap.size,0,none⟩ 1 1 [.int .i32 x1] ?_ rfl ?_ (by simp[Value.oneCell']) (by omega) (by unfold maxLen;omega) (by omega) ?_ ?_;(rfl);(rfl);(rfl);(exact hO5.alloc _);(rfl);(exact news_at rfl);(exact (hB5.alloc hB5.size _).size);intro g6 c6 w6 hO6 hg6' hor6';have hg6:(w5.alloc (.cells #[.int .i32 x1] 21)).grownBy w6 (some g):=(by first|exact hg6'|exact gb_undrew hg6');have hor6:g6=g∨g6=(w5.alloc (.cells #[.int .i32 x1] 21)).heap.size:=hor6';have hx6:w6.heap[X]? = some (.cells #[.int .i32 x1,.int .u8 x2] 275 (0,0)):=(hg6.block X (Nat.lt_of_lt_of_le hX5 (le_alloc w5 _)) (by simpa using Ne.symm hgX)).trans (alloc_old _ hg5))
        | fail)
       all_goals (
        go_wp2_with fail
        go_roundg (l.length-(k+1))
        case measure=>omega
        case rel =>
         have hB6:Below w.heap.size w w6:=(hB5.alloc hB5.size (.cells #[.int .i32 x1] 21)).grown hg6 (hB5.alloc hB5.size _).size (fun k e=>by cases e;exact hgb)
         have hM6:=(hM5.below ((Below.refl _ w5).alloc (Nat.le_refl _) (.cells #[.int .i32 x1] 21))).kept hg6 (by simpa using Ne.symm hgne)
         have e5:(stAt l (k+1)).out=out++[x1]:=by rw[HSE.out];rfl
         have e6:(stAt l (k+1)).last=x2:=by rw[HSE.out];rfl
         refine⟨k+1,g6,c6,by go_num,rfl,by omega,by rw[e5,List.length_append];rfl,by rw[HST5.out],by rw[e6], ?_,hB6,hM6, ?_⟩
         ·rw[e5,List.length_append,show cl .i32 (out++[x1])=cl .i32 out++[.int .i32 x1] from by simp[cl]]
          exact hO6
         ·rcases hor6 with rfl|rfl
          ·exact hgne
          ·have:=hM5.lt
           have:=le_alloc w5 (.cells #[.int .i32 x1] 21)
           omega)
      ·have HIS:Hid (isSt (x1,x2)=false):=Lib.hid (isSt_false.2 h0)
       have HST5:Hid ((stAt l (k+1)).st=(q:Int)):=Lib.hid (by rw[HSE.out];simp[St.push,h0])
       clear h0
       go_upto_region 14 with(first|(go_at_call 248;refine (starter_any wJ wJ (x1,x2) (Below.refl _ _)).mono ?_;rw[HIS.out];rintro e w5 ⟨rfl,hb5⟩)|fail)
       have hO5:=own_below hOJ hb5
       have hM5:=(hMJ).below hb5
       have hB5:=hBJ.trans (hb5.mono hBJ.size)
       have hg5:=(hb5.block X (Array.getElem?_eq_some_iff.1 hgJ).1).trans hgJ
       have hX5:X<w5.heap.size:=(Array.getElem?_eq_some_iff.1 hg5).1
       clear hb5
       obtain⟨q0,q1,hg5'⟩:=box3c hg5
       go_region_held3 (fun w'=>w'.cell? ⟨X,0,none⟩=some (.int .i32 x1)/\w'.cell? ⟨X,1,none⟩=some (.int .u8 x2)/\w'.heap[X]? = some (.cells #[.int .i32 x1,.int .u8 x2] 275 (0,0))) (first|exact box3c hg5|exact box3c (alloc_old _ hg5)|exact box3c hx6) (first
        | (refine step_append_at _ ?_ (.tmp 57) (.tmp 60) 22 ?_ w.heap.size 21 i0 (.int .i32 0) 1 4 Tryz.underlying22 hi hz0 hz1 hz2 rfl (Nat.zero_lt_succ 0) g out.length c (cl .i32 out) ?_ ?_ ⟨w5.heap.size,0,none⟩ 1 1 [.int .i32 x1] ?_ rfl ?_ (by simp[Value.oneCell']) (by omega) (by unfold maxLen;omega) (by omega) ?_ ?_;(rfl);(rfl);(rfl);(exact hO5.alloc _);(rfl);(exact news_at rfl);(exact (hB5.alloc hB5.size _).size);intro g6 c6 w6 hO6 hg6' hor6';have hg6:(w5.alloc (.cells #[.int .i32 x1] 21)).grownBy w6 (some g):=(by first|exact hg6'|exact gb_undrew hg6');have hor6:g6=g∨g6=(w5.alloc (.cells #[.int .i32 x1] 21)).heap.size:=hor6';have hx6:w6.heap[X]? = some (.cells #[.int .i32 x1,.int .u8 x2] 275 (0,0)):=(hg6.block X (Nat.lt_of_lt_of_le hX5 (le_alloc w5 _)) (by simpa using Ne.symm hgX)).trans (alloc_old _ hg5))
        | fail)
       all_goals (
        go_wp2_with fail
        go_roundg (l.length-(k+1))
        case measure=>omega
        case rel =>
         have hB6:Below w.heap.size w w6:=(hB5.alloc hB5.size (.cells #[.int .i32 x1] 21)).grown hg6 (hB5.alloc hB5.size _).size (fun k e=>by cases e;exact hgb)
         have hM6:=(hM5.below ((Below.refl _ w5).alloc (Nat.le_refl _) (.cells #[.int .i32 x1] 21))).kept hg6 (by simpa using Ne.symm hgne)
         have e5:(stAt l (k+1)).out=out++[x1]:=by rw[HSE.out];rfl
         have e6:(stAt l (k+1)).last=x2:=by rw[HSE.out];rfl
         refine⟨k+1,g6,c6,by go_num,rfl,by omega,by rw[e5,List.length_append];rfl,by rw[HST5.out],by rw[e6], ?_,hB6,hM6, ?_⟩
         ·rw[e5,List.length_append,show cl .i32 (out++[x1])=cl .i32 out++[.int .i32 x1] from by simp[cl]]
          exact hO6
         ·rcases hor6 with rfl|rfl
          ·exact hgne
          ·have:=hM5.lt
           have:=le_alloc w5 (.cells #[.int .i32 x1] 21)
           omega)
   ·go_cut [35] (fun s35 wx=>s35 = .bool false/\wx=W)
    case first =>
     by_cases hst:0<=st
     ·have ha:¬ st=(out.length:Int)-1:=by omega
      have hb:¬ last<x2:=by omega
      go_wp2_with fail
      go_meet
      exact⟨by first|rfl|exact congrArg Value.bool (by simpa using ha),rfl⟩
     ·go_wp2_with fail
      go_meet
      exact⟨rfl,rfl⟩
    case rest =>
     obtain⟨rfl,hwc⟩:=hcut
     rw[hwc]
     clear hwc
     have HMAY0:=Lib.hid hmay
     clear hmay
     have HSE:Hid (stAt l (k+1)=St.push ⟨out,st,last⟩ (x1,x2)):=Lib.hid (by rw[HST.out,step_no];exact HMAY0.out)
     by_cases h0:x2=0
     ·have HIS:Hid (isSt (x1,x2)=true):=Lib.hid (isSt_true.2 h0)
      have HST5:Hid ((stAt l (k+1)).st=((out.length:Nat):Int)):=Lib.hid (by rw[HSE.out];simp[St.push,h0])
      clear h0
      go_upto_region 14 with(first|(go_at_call 248;refine (starter_any W W (x1,x2) (Below.refl _ _)).mono ?_;rw[HIS.out];rintro e w5 ⟨rfl,hb5⟩)|fail)
      have hO5:=own_below hO4 hb5
      have hM5:=(hM4).below hb5
      have hB5:=hB4.trans (hb5.mono hB4.size)
      have hg5:=(hb5.block X (Array.getElem?_eq_some_iff.1 hg4).1).trans hg4
      have hX5:X<w5.heap.size:=(Array.getElem?_eq_some_iff.1 hg5).1
      clear hb5
      obtain⟨q0,q1,hg5'⟩:=box3c hg5
      go_region_held3 (fun w'=>w'.cell? ⟨X,0,none⟩=some (.int .i32 x1)/\w'.cell? ⟨X,1,none⟩=some (.int .u8 x2)/\w'.heap[X]? = some (.cells #[.int .i32 x1,.int .u8 x2] 275 (0,0))) (first|exact box3c hg5|exact box3c (alloc_old _ hg5)|exact box3c hx6) (first
       | (refine step_append_at _ ?_ (.tmp 57) (.tmp 60) 22 ?_ w.heap.size 21 i0 (.int .i32 0) 1 4 Tryz.underlying22 hi hz0 hz1 hz2 rfl (Nat.zero_lt_succ 0) g out.length c (cl .i32 out) ?_ ?_ ⟨w5.heap.size,0,none⟩ 1 1 [.int .i32 x1] ?_ rfl ?_ (by simp[Value.oneCell']) (by omega) (by unfold maxLen;omega) (by omega) ?_ ?_;(rfl);(rfl);(rfl);(exact hO5.alloc _);(rfl);(exact news_at rfl);(exact (hB5.alloc hB5.size _).size);intro g6 c6 w6 hO6 hg6' hor6';have hg6:(w5.alloc (.cells #[.int .i32 x1] 21)).grownBy w6 (some g):=(by first|exact hg6'|exact gb_undrew hg6');have hor6:g6=g∨g6=(w5.alloc (.cells #[.int .i32 x1] 21)).heap.size:=hor6';have hx6:w6.heap[X]? = some (.cells #[.int .i32 x1,.int .u8 x2] 275 (0,0)):=(hg6.block X (Nat.lt_of_lt_of_le hX5 (le_alloc w5 _)) (by simpa using Ne.symm hgX)).trans (alloc_old _ hg5))
       | fail)
      all_goals (
       go_wp2_with fail
       go_roundg (l.length-(k+1))
       case measure=>omega
       case rel =>
        have hB6:Below w.heap.size w w6:=(hB5.alloc hB5.size (.cells #[.int .i32 x1] 21)).grown hg6 (hB5.alloc hB5.size _).size (fun k e=>by cases e;exact hgb)
        have hM6:=(hM5.below ((Below.refl _ w5).alloc (Nat.le_refl _) (.cells #[.int .i32 x1] 21))).kept hg6 (by simpa using Ne.symm hgne)
        have e5:(stAt l (k+1)).out=out++[x1]:=by rw[HSE.out];rfl
        have e6:(stAt l (k+1)).last=x2:=by rw[HSE.out];rfl
        refine⟨k+1,g6,c6,by go_num,rfl,by omega,by rw[e5,List.length_append];rfl,by rw[HST5.out],by rw[e6], ?_,hB6,hM6, ?_⟩
        ·rw[e5,List.length_append,show cl .i32 (out++[x1])=cl .i32 out++[.int .i32 x1] from by simp[cl]]
         exact hO6
        ·rcases hor6 with rfl|rfl
         ·exact hgne
         ·have:=hM5.lt
          have:=le_alloc w5 (.cells #[.int .i32 x1] 21)
          omega)
     ·have HIS:Hid (isSt (x1,x2)=false):=Lib.hid (isSt_false.2 h0)
      have HST5:Hid ((stAt l (k+1)).st=st):=Lib.hid (by rw[HSE.out];simp[St.push,h0])
      clear h0
      go_upto_region 14 with(first|(go_at_call 248;refine (starter_any W W (x1,x2) (Below.refl _ _)).mono ?_;rw[HIS.out];rintro e w5 ⟨rfl,hb5⟩)|fail)
      have hO5:=own_below hO4 hb5
      have hM5:=(hM4).below hb5
      have hB5:=hB4.trans (hb5.mono hB4.size)
      have hg5:=(hb5.block X (Array.getElem?_eq_some_iff.1 hg4).1).trans hg4
      have hX5:X<w5.heap.size:=(Array.getElem?_eq_some_iff.1 hg5).1
      clear hb5
      obtain⟨q0,q1,hg5'⟩:=box3c hg5
      go_region_held3 (fun w'=>w'.cell? ⟨X,0,none⟩=some (.int .i32 x1)/\w'.cell? ⟨X,1,none⟩=some (.int .u8 x2)/\w'.heap[X]? = some (.cells #[.int .i32 x1,.int .u8 x2] 275 (0,0))) (first|exact box3c hg5|exact box3c (alloc_old _ hg5)|exact box3c hx6) (first
       | (refine step_append_at _ ?_ (.tmp 57) (.tmp 60) 22 ?_ w.heap.size 21 i0 (.int .i32 0) 1 4 Tryz.underlying22 hi hz0 hz1 hz2 rfl (Nat.zero_lt_succ 0) g out.length c (cl .i32 out) ?_ ?_ ⟨w5.heap.size,0,none⟩ 1 1 [.int .i32 x1] ?_ rfl ?_ (by simp[Value.oneCell']) (by omega) (by unfold maxLen;omega) (by omega) ?_ ?_;(rfl);(rfl);(rfl);(exact hO5.alloc _);(rfl);(exact news_at rfl);(exact (hB5.alloc hB5.size _).size);intro g6 c6 w6 hO6 hg6' hor6';have hg6:(w5.alloc (.cells #[.int .i32 x1] 21)).grownBy w6 (some g):=(by first|exact hg6'|exact gb_undrew hg6');have hor6:g6=g∨g6=(w5.alloc (.cells #[.int .i32 x1] 21)).heap.size:=hor6';have hx6:w6.heap[X]? = some (.cells #[.int .i32 x1,.int .u8 x2] 275 (0,0)):=(hg6.block X (Nat.lt_of_lt_of_le hX5 (le_alloc w5 _)) (by simpa using Ne.symm hgX)).trans (alloc_old _ hg5))
       | fail)
      all_goals (
       go_wp2_with fail
       go_roundg (l.length-(k+1))
       case measure=>omega
       case rel =>
        have hB6:Below w.heap.size w w6:=(hB5.alloc hB5.size (.cells #[.int .i32 x1] 21)).grown hg6 (hB5.alloc hB5.size _).size (fun k e=>by cases e;exact hgb)
        have hM6:=(hM5.below ((Below.refl _ w5).alloc (Nat.le_refl _) (.cells #[.int .i32 x1] 21))).kept hg6 (by simpa using Ne.symm hgne)
        have e5:(stAt l (k+1)).out=out++[x1]:=by rw[HSE.out];rfl
        have e6:(stAt l (k+1)).last=x2:=by rw[HSE.out];rfl
        refine⟨k+1,g6,c6,by go_num,rfl,by omega,by rw[e5,List.length_append];rfl,by rw[HST5.out],by rw[e6], ?_,hB6,hM6, ?_⟩
        ·rw[e5,List.length_append,show cl .i32 (out++[x1])=cl .i32 out++[.int .i32 x1] from by simp[cl]]
         exact hO6
        ·rcases hor6 with rfl|rfl
         ·exact hgne
         ·have:=hM5.lt
          have:=le_alloc w5 (.cells #[.int .i32 x1] 21)
          omega)
  ·obtain rfl:k=l.length:=by omega
   have hltz:¬ ((l.length:Nat):Int)<(l.length:Int):=by omega
   rw[<-comp_at]at hO ⊢
   go_wp2_with fail
   go_ret
   exact⟨g,c,rfl,hO,hB⟩
def IsB (b:Bool) (w:World) (e:Ending) (w':World):Prop:=e = .returned (.bool b)/\Below w.heap.size w w'
theorem IsB.drewN{b:Bool}{w:World}{e:Ending}(he:e = .returned (.bool b))(q:Nat):IsB b w e (w.drewN q):=⟨he,⟨rfl,rfl,rfl,Nat.le_refl _,fun _ _=>rfl⟩⟩
theorem IsB.drewN2{b:Bool}{w:World}{e:Ending}(he:e = .returned (.bool b))(q q':Nat):IsB b w e ((w.drewN q).drewN q'):=⟨he,⟨rfl,rfl,rfl,Nat.le_refl _,fun _ _=>rfl⟩⟩
theorem all_eq{α:Type}{a b:List α}{n:Nat}(ha:a.length=n)(hb:b.length=n)(h:∀ j,j<n->a[j]? = b[j]?):a=b:=by
 refine List.ext_getElem? fun j => ?_
 by_cases hj:j<n
 ·exact h j hj
 ·rw[List.getElem?_eq_none (by omega),List.getElem?_eq_none (by omega)]
theorem Equal_any(a b:List Int)(A B:Option Addr)(n m c d:Nat)(w:World)(hn:a.length=n)(hm:b.length=m)(hn1:n<=1000000)(hm1:m<=1000000)(hra:Row w w.heap.size A (cl .i32 a))(hrb:Row w w.heap.size B (cl .i32 b)) :
  Calls Tryz.prog 390 #[.slice A n c,.slice B m d] w (IsB (decide (a=b)) w):=by
 by_cases hnm:n=m
 ·have HN:=Lib.hid hn
  subst hnm
  have HM:=Lib.hid hm
  clear hn hm
  go_enter Tryz.func390,Tryz.ntmps390
  go_wp2
  go_loopw [13] (fun i wr => ∃ k:Nat,k<=n/\i = .int .i64 k/\(∀ j,j<k->a[j]? = b[j]?)/\∃ q,wr=w.drewN q) (fun i _=>n-(intOf i).toNat)
  case atStart=>exact⟨0,by omega,rfl,by omega,0,rfl⟩
  case round =>
   obtain⟨k,hk,rfl,hall,q,rfl⟩:=hrel
   have HA:=Lib.hid hall
   clear hall
   by_cases hlt:k<n
   ·have hka:k<a.length:=by rw[HN.out];exact hlt
    have hkb:k<b.length:=by rw[HM.out];exact hlt
    obtain⟨b1,o1,rfl,hb1,hc1⟩:=hra.at_ (by simp;omega)
    obtain⟨b2,o2,rfl,hb2,hc2⟩:=hrb.at_ (by simp;omega)
    have g1:=hc1 k (by simp;omega)
    have g2:=hc2 k (by simp;omega)
    rw[cl_get _ _ _ hka]at g1
    rw[cl_get _ _ _ hkb]at g2
    obtain⟨x,hx⟩:∃ x,a[k]=x:=⟨_,rfl⟩
    obtain⟨y,hy⟩:∃ y,b[k]=y:=⟨_,rfl⟩
    rw[hx]at g1
    rw[hy]at g2
    have HX:=Lib.hid hx
    have HY:=Lib.hid hy
    clear hx hy hc1 hc2 hra hrb
    by_cases hxy:x=y
    ·subst hxy
     go_wp2
     go_quiet (fail)
     go_wp2
     go_roundw
     case rel =>
      refine⟨k+1,by omega,by go_num,fun j hj => ?_,_,rfl⟩
      by_cases hjk:j<k
      ·exact HA.out j hjk
      ·obtain rfl:j=k:=by omega
       rw[List.getElem?_eq_getElem hka,List.getElem?_eq_getElem hkb,HX.out,HY.out]
     case measure=>simp[intOf];omega
    ·have hne:(x != y)=true:=by simpa using hxy
     go_wp2
     go_quiet (fail)
     go_wp2
     go_ret
     refine IsB.drewN2 (ret_bool ?_) _ _
     rw[decide_eq_false (fun e=>hxy (by rw[<-HX.out,<-HY.out];simp[e]))]
   ·obtain rfl:k=n:=by omega
    go_wp2
    go_ret
    exact IsB.drewN (ret_bool (decide_eq_true (all_eq HN.out HM.out HA.out)).symm) _
 ·have hne:((n:Int) != (m:Int))=true:=by simp;omega
  go_enter Tryz.func390,Tryz.ntmps390
  go_wp2
  go_ret
  refine⟨ret_bool ?_,Below.refl _ _⟩
  have:a≠b:=fun e=>hnm (by rw[<-hn,<-hm,e])
  simp[this]
theorem own_shape{w:World}{base:Nat}{e:TypeId}{size n:Nat}{v:Value}{xs:List Value}(h:w.ownsRow base e size v n xs):∃ A c,v = .slice A n c:=by
 rcases h.2 with ⟨rfl,rfl⟩|⟨g,cap,cur,rfl,_⟩
 ·exact⟨none,0,rfl⟩
 ·exact⟨_,cap,rfl⟩
theorem nfd_len(l:List Int):(nfd l).length=(dec l).length:=by unfold nfd;rw[List.length_map,arr_len]
theorem NFC_any(N:Nat)(hN:StableOk N)(l:List Int)(A:Option Addr)(cap:Nat)(w:World)(hl:l.length<=4000)(hC:C32 l)(hr:Row w w.heap.size A (cl .i32 l))(hR:Runs N (dec l)) :
  Calls Tryz.prog 148 #[.slice A l.length cap] w (Made1 w (nfc l)):=by
 have HD:=Lib.hid (decompose_any N hN l A cap w hl hC hr hR)
 have hdl:=dec_len l
 have hal:=arr_len (dec l)
 have hw2:=arr_w2 (dec_w2 hC)
 have HE:Hid (nfc l=comp (arr [] (dec l))):=Lib.hid rfl
 rw[HE.out]
 obtain⟨L,hL⟩:∃ L,arr [] (dec l)=L:=⟨_,rfl⟩
 rw[hL]at HD hal hw2 ⊢
 have HC:=Lib.hid (fun A cap w=>compose_any L A cap w (by omega) hw2)
 clear hL hR hN hC hr hw2 HE hal hdl
 go_enter Tryz.func148,Tryz.ntmps148
 go_wp2_with(first|(go_at_call 197;refine HD.out.mono ?_;rintro e w1 ⟨g,c,rfl,ho1,hb1⟩;have hr1:=Row.of_own ho1)|(go_at_call 196;refine (HC.out _ _ _ hr1).mono ?_;rintro e w2 ⟨g2,c2,rfl,ho2,hb2⟩)|fail)
 go_ret
 exact⟨g2,c2,rfl,own_down ho2 hb1.size,hb1.trans (hb2.mono hb1.size)⟩
theorem comp_len_le(l:List C)(h:W2 l):(comp l).length<=l.length:=by rw[comp_at];exact (stAt_inv h l.length (Nat.le_refl _)).1
theorem nfc_len(l:List Int)(h:C32 l):(nfc l).length<=l.length*5:=by
 have h1:=comp_len_le (arr [] (dec l)) (arr_w2 (dec_w2 h))
 rw[arr_len]at h1
 have:=dec_len l
 unfold nfc
 omega
theorem Row.up{w w':World}{A:Option Addr}{xs:List Value}(h:Row w w.heap.size A xs)(hb:Below w.heap.size w w'):Row w' w'.heap.size A xs:=(h.below hb).mono hb.size
theorem Is_any(N:Nat)(hN:StableOk N)(l:List Int)(A:Option Addr)(cap:Nat)(w:World)(hl:l.length<=4000)(hC:C32 l)(hr:Row w w.heap.size A (cl .i32 l))(hR:Runs N (dec l)) :
  Calls Tryz.prog 374 #[.slice A l.length cap] w (IsB (decide (nfc l=l)) w):=by
 have HD:=Lib.hid (NFC_any N hN l A cap w hl hC hr hR)
 have hnl:=nfc_len l hC
 obtain⟨R,hR'⟩:∃ R,nfc l=R:=⟨_,rfl⟩
 rw[hR']at HD hnl ⊢
 clear hR' hR hN hC
 go_enter Tryz.func374,Tryz.ntmps374
 go_wp2_with(first|(go_at_call 148;refine HD.out.mono ?_;rintro e w1 ⟨g,c,rfl,ho1,hb1⟩;have hr1:=Row.of_own ho1)|(go_at_call 390;refine (Equal_any R l _ _ _ _ _ _ _ rfl rfl (by omega) (by omega) hr1 (hr.up hb1)).mono ?_;rintro e w2 ⟨rfl,hb2⟩)|fail)
 go_ret
 exact⟨rfl,hb1.trans (hb2.mono hb1.size)⟩
theorem upB{w w1 w2:World}(h:Below w.heap.size w w1)(k:Below w1.heap.size w1 w2):Below w.heap.size w w2:=h.trans (k.mono h.size)
theorem row_new'(w:World)(cs:Array Value)(t:TypeId)(news:List Value)(h:cs.toList=news):Row (w.alloc (.cells cs t)) (w.alloc (.cells cs t)).heap.size (some ⟨w.heap.size,0,none⟩) news:=by
 rw[World.size_alloc]
 exact row_new w cs t news h
theorem upA(w:World)(o:Obj):Below w.heap.size w (w.alloc o):=(Below.refl _ w).alloc (Nat.le_refl _) o
end Go.Proofs.YtkibdkfdffkkfaaGreatDoor
namespace Go.Proofs.YtkibdkfdffkkfaaGreatDoor
open Go.RowKit Norm Go.Shelf Go.Sort Go.Lib
def SWL (w0:World) (blk off:Nat) (l:List C) (W:World):Prop:=SWK encC 2 w0 blk off l.toArray W
abbrev RowC (w0:World) (blk off:Nat) (l0:List C):Prop:=RowK encC 2 w0 blk off l0.toArray
theorem lget(A:List C)(x:C)(B:List C):(A++x::B).toArray[A.length]! = x:=by simp[getElem!_pos]
theorem lget2(A:List C)(x:C)(B:List C)(y:C)(D:List C):(A++x::B++y::D).toArray[A.length+1+B.length]! = y:=by
 have:=lget (A++x::B) y D
 rw[List.length_append,List.length_cons,show A.length+(B.length+1)=A.length+1+B.length from by omega]at this
 exact this
theorem lswp(A:List C)(x:C)(B:List C)(y:C)(D:List C):swp (A++x::B++y::D).toArray A.length (A.length+1+B.length)=(A++y::B++x::D).toArray:=by
 have e1:(A++x::B++y::D).toArray[A.length]! = x:=by rw[List.append_assoc,List.cons_append];exact lget A x _
 have e2:=lget2 A x B y D
 apply Array.ext'
 unfold swp
 rw[e1,e2]
 have:((A++x::B++y::D).set A.length y).set (A.length+1+B.length) x=A++y::B++x::D:=by
  rw[List.append_assoc,List.cons_append,List.set_append_right _ _ (Nat.le_refl _),Nat.sub_self,List.set_cons_zero,List.set_append_right _ _ (by omega),show A.length+1+B.length-A.length=B.length+1 from by omega,List.set_cons_succ,List.set_append_right _ _ (Nat.le_refl _),Nat.sub_self,List.set_cons_zero]
  simp
 simpa using this
section
variable {w0 W:World} {blk off:Nat} {l0 l:List C}
theorem SWL.grown(h:SWL w0 blk off l W)(n:Nat)(os:Array Obj):SWL w0 blk off l (grow (W.drewN n) os):=SWK.grown h n os
theorem SWL.cells(h:SWL w0 blk off l W)(R:RowC w0 blk off l0)(hs:l.length=l0.length){i:Nat}(hi:i<l.length) :
  W.cell? ⟨blk,off+i*2,none⟩=some (.int .i32 l.toArray[i]!.1)/\W.cell? ⟨blk,off+i*2+1,none⟩=some (.int .u8 l.toArray[i]!.2) /\
  W.frozen? ⟨blk,off+i*2,none⟩=false/\W.frozen? ⟨blk,off+i*2+1,none⟩=false:=by
 have hH:HoldsK encC 2 W blk off l.toArray:=SWK.holds h R.hblk R.hH (by simpa using hs)
 have h0:=hH.cell (i:=i) (c:=0) (by simpa using hi) (by omega)
 have h1:=hH.cell (i:=i) (c:=1) (by simpa using hi) (by omega)
 exact⟨h0.1,h1.1,h0.2,h1.2⟩
theorem SWL.swapped(h:SWL w0 blk off l W)(R:RowC w0 blk off l0){i j:Nat}(hi:i<l.length)(hj:j<l.length){x y:C}(ex:l.toArray[i]! = x)(ey:l.toArray[j]! = y){l':List C}(he:swp l.toArray i j=l'.toArray) :
  SWL w0 blk off l' ((((W.drew.setCell ⟨blk,off+i*2,none⟩ (.int .i32 y.1)).setCell ⟨blk,off+i*2+1,none⟩ (.int .u8 y.2)).setCell ⟨blk,off+j*2,none⟩ (.int .i32 x.1)).setCell ⟨blk,off+j*2+1,none⟩ (.int .u8 x.2)):=by
 have:=SWK.swapped h R i j (by simpa using hi) (by simpa using hj)
 rw[he,ex,ey]at this
 exact this
end
def SwOk (w0:World) (blk off:Nat) (l':List C) (e:Ending) (w':World):Prop:=e = .returned (.tuple #[])/\SWL w0 blk off l' w'
theorem swapRange_any(w0:World)(blk off cap N:Nat)(l0:List C)(R:RowC w0 blk off l0)(P U M V S:List C)(n a b:Nat)(hU:U.length=n)(hV:V.length=n)(ha:a=P.length)(hb:b=P.length+n+M.length)(hN:N=l0.length)(hl:(P++U++M++V++S).length=N)(h6:N<=1000000)
  (W:World) (hS:SWL w0 blk off (P++U++M++V++S) W) :
  Calls Tryz.prog 394 #[.slice (some ⟨blk,off,none⟩) N cap,.int .i64 a,.int .i64 b,.int .i64 n,.func (.func 291) #[] #[]] W (SwOk w0 blk off (P++V++M++U++S)):=by
 have HS0:Hid (SWL w0 blk off (P++(V.take 0++U.drop 0)++M++(U.take 0++V.drop 0)++S) W):=Lib.hid (by simpa using hS)
 clear hS
 go_enter Tryz.func394,Tryz.ntmps394
 go_wp2
 go_loopg [10] n (fun m s10 wr => ∃ i:Nat,s10 = .int .i64 (i:Int)/\m=n-i/\i<=n/\Hid (SWL w0 blk off (P++(V.take i++U.drop i)++M++(U.take i++V.drop i)++S) wr))
 case atStart=>exact⟨0,rfl,rfl,Nat.zero_le _,HS0⟩
 case round =>
  obtain⟨i,rfl,rfl,hi,HS⟩:=hrel
  clear HS0
  by_cases hlt:i<n
  ·have hltz:(i:Int)<(n:Int):=by omega
   have hu:U.drop i=U[i]::U.drop (i+1):=List.drop_eq_getElem_cons (by omega)
   have hv:V.drop i=V[i]::V.drop (i+1):=List.drop_eq_getElem_cons (by omega)
   have hu2:U.take (i+1)=U.take i++[U[i]]:=by rw[List.take_add_one,List.getElem?_eq_getElem (by omega)];rfl
   have hv2:V.take (i+1)=V.take i++[V[i]]:=by rw[List.take_add_one,List.getElem?_eq_getElem (by omega)];rfl
   obtain⟨x,hx⟩:∃ x,U[i]=x:=⟨_,rfl⟩
   obtain⟨y,hy⟩:∃ y,V[i]=y:=⟨_,rfl⟩
   rw[hx]at hu hu2
   rw[hy]at hv hv2
   simp only[List.length_append]at hl
   have e1:P++(V.take i++U.drop i)++M++(U.take i++V.drop i)++S=(P++V.take i)++x::(U.drop (i+1)++M++U.take i)++y::(V.drop (i+1)++S):=by rw[hu,hv];simp
   have e2:P++(V.take (i+1)++U.drop (i+1))++M++(U.take (i+1)++V.drop (i+1))++S=(P++V.take i)++y::(U.drop (i+1)++M++U.take i)++x::(V.drop (i+1)++S):=by rw[hu2,hv2];simp
   have la:(P++V.take i).length=a+i:=by simp;omega
   have lb:(P++V.take i).length+1+(U.drop (i+1)++M++U.take i).length=b+i:=by simp;omega
   have hS:=HS.out
   rw[e1]at hS
   have ll:((P++V.take i)++x::(U.drop (i+1)++M++U.take i)++y::(V.drop (i+1)++S)).length=N:=by simp;omega
   have HE2:=Lib.hid e2
   generalize P++V.take i=A at hS la lb ll HE2
   generalize U.drop (i+1)++M++U.take i=B at hS lb ll HE2
   generalize V.drop (i+1)++S=D at hS ll HE2
   have g1:(A++x::B++y::D).toArray[a+i]! = x:=by rw[<-la,List.append_assoc,List.cons_append];exact lget A x _
   have g2:(A++x::B++y::D).toArray[b+i]! = y:=by rw[<-lb];exact lget2 A x B y D
   have g3:swp (A++x::B++y::D).toArray (a+i) (b+i)=(A++y::B++x::D).toArray:=by rw[<-la,<-lb,la];exact la ▸ lswp A x B y D
   have bi:a+i<N:=by omega
   have bj:b+i<N:=by omega
   obtain⟨c0,c1,f0,f1⟩:=hS.cells R (by omega) (i:=a+i) (by omega)
   obtain⟨d0,d1,k0,k1⟩:=hS.cells R (by omega) (i:=b+i) (by omega)
   rw[g1]at c0 c1
   rw[g2]at d0 d1
   have HSW:=Lib.hid (hS.swapped R (i:=a+i) (j:=b+i) (by omega) (by omega) g1 g2 g3)
   clear e1 e2 hu hv hu2 hv2 hx hy HS hS g1 g2 g3 ha hb hN hU hV hl
   have ea:((a:Int)+(i:Int)).toNat=a+i:=by omega
   have pa:(0:Int)<=(a:Int)+(i:Int):=by omega
   have ba:(a:Int)+(i:Int)<(N:Int):=by omega
   have wa:IntKind.i64.wrap ((a:Int)+(i:Int))=(a:Int)+(i:Int):=by rw[IntKind.wrap_i64];omega
   have eb:((b:Int)+(i:Int)).toNat=b+i:=by omega
   have pb:(0:Int)<=(b:Int)+(i:Int):=by omega
   have bb:(b:Int)+(i:Int)<(N:Int):=by omega
   have wb:IntKind.i64.wrap ((b:Int)+(i:Int))=(b:Int)+(i:Int):=by rw[IntKind.wrap_i64];omega
   go_wp2_with fail
   have mixed:Tryz.prog.follows .mixedOrders=true:=by kernel_rfl
   go_big_region_o
   go_wp2_with fail
   go_roundg (n-(i+1))
   case measure=>omega
   case rel=>exact⟨i+1,by go_num,rfl,by omega,Lib.hid (by rw[HE2.out];exact HSW.out)⟩
  ·obtain rfl:i=n:=by omega
   have hltz:¬ ((i:Nat):Int)<(i:Int):=by omega
   have hS:=HS.out
   rw[List.take_of_length_le (by omega),List.take_of_length_le (by omega),List.drop_eq_nil_of_le (by omega),List.drop_eq_nil_of_le (by omega),List.append_nil,List.append_nil]at hS
   go_wp2_with fail
   go_end0
   exact⟨rfl,by simpa only[List.append_assoc] using hS⟩
theorem rotate_any(w0:World)(blk off cap N:Nat)(l0:List C)(R:RowC w0 blk off l0)(P X Y S:List C)(a m b:Nat)(ha:a=P.length)(hm:m=P.length+X.length)(hb:b=P.length+X.length+Y.length)(hX:0<X.length)(hY:0<Y.length)
  (hN:N=l0.length) (hl:(P++X++Y++S).length=N) (h6:N<=1000000) (W:World) (hS:SWL w0 blk off (P++X++Y++S) W) :
  Calls Tryz.prog 388 #[.slice (some ⟨blk,off,none⟩) N cap,.int .i64 a,.int .i64 m,.int .i64 b,.func (.func 291) #[] #[]] W (SwOk w0 blk off (P++Y++X++S)):=by
 have HS0:=Lib.hid hS
 simp only[List.length_append]at hl
 have e1:(m:Int)-(a:Int)=(X.length:Int):=by omega
 have e2:(b:Int)-(m:Int)=(Y.length:Int):=by omega
 have hmN:m+Y.length<=N:=by omega
 obtain⟨F,hF⟩:∃ F,P++Y++X++S=F:=⟨_,rfl⟩
 have HF:=Lib.hid hF
 have HL:=Lib.hid hl
 have HMN:=Lib.hid hm
 rw[hF]
 have HNN:=Lib.hid hN
 clear hF hS ha hm hb hN
 go_enter Tryz.func388,Tryz.ntmps388
 go_wp2
 go_loopg [10,11] (X.length+Y.length) (fun k s10 s11 wr => ∃ Q U V T:List C,s10 = .int .i64 (U.length:Int)/\s11 = .int .i64 (V.length:Int)/\k=U.length+V.length/\0<U.length/\0<V.length/\Q.length+U.length=m/\Q.length+U.length+V.length+T.length=N/\Hid (Q++V++U++T=F)/\Hid (SWL w0 blk off (Q++U++V++T) wr))
 case atStart=>exact⟨P,X,Y,S,by go_num,by go_num,rfl,hX,hY,HMN.out.symm,by have:=HL.out;omega,HF,HS0⟩
 case round =>
  obtain⟨Q,U,V,T,rfl,rfl,rfl,hU,hV,hQ,hT,HE,HS⟩:=hrel
  clear HS0 HF HL HMN hmN e1 e2 hl
  obtain⟨i,hi⟩:∃ i,U.length=i:=⟨_,rfl⟩
  obtain⟨j,hj⟩:∃ j,V.length=j:=⟨_,rfl⟩
  rw[hi,hj]at hT ⊢
  rw[hi]at hU hQ
  rw[hj]at hV
  have HI:=Lib.hid hi
  have HJ:=Lib.hid hj
  clear hi hj
  have hmi:(m:Int)-(i:Int)=(Q.length:Int):=by omega
  rcases Nat.lt_trichotomy i j with hij|hij|hij
  ·
   have HC:Hid (Calls Tryz.prog 394 #[.slice (some ⟨blk,off,none⟩) N cap,.int .i64 ((m:Int)-(i:Int)),.int .i64 ((m:Int)+(j:Int)-(i:Int)),.int .i64 (i:Int),.func (.func 291) #[] #[]] wr (SwOk w0 blk off (Q++V.drop (j-i)++V.take (j-i)++U++T))):=by
    have e:(m:Int)+(j:Int)-(i:Int)=((Q.length+i+(j-i):Nat):Int):=by omega
    rw[hmi,e]
    have h1:(V.drop (j-i)).length=i:=by rw[List.length_drop,HJ.out];omega
    have h2:(V.take (j-i)).length=j-i:=by rw[List.length_take,HJ.out];omega
    have e3:Q++U++V++T=Q++U++V.take (j-i)++V.drop (j-i)++T:=by
     conv=>lhs;rw[<-List.take_append_drop (j-i) V]
     simp only[List.append_assoc]
    exact Lib.hid (swapRange_any w0 blk off cap N l0 R Q U (V.take (j-i)) (V.drop (j-i)) T i Q.length _ HI.out h1 rfl (by rw[h2]) HNN.out (by simp only[List.length_append,h1,h2,HI.out];omega) h6 wr (by rw[<-e3];exact HS.out))
   have z1:(i:Int)≠(j:Int):=by omega
   have z1b:((i:Int) != (j:Int))=true:=by simp;omega
   have z2:¬ (j:Int)<(i:Int):=by omega
   clear hmi
   go_wp2_with(first|(go_at_call 394;refine HC.out.mono ?_;rintro e w2 ⟨rfl,hS2⟩)|fail)
   go_roundg j
   case measure=>have:=HI.out;have:=HJ.out;omega
   case rel =>
    refine⟨Q,V.drop (j-i),V.take (j-i),U++T, ?_, ?_, ?_, ?_, ?_, ?_, ?_, ?_, ?_⟩
    ·rw[List.length_drop,HJ.out];congr 1;omega
    ·rw[List.length_take,HJ.out];congr 1;omega
    ·rw[List.length_drop,List.length_take,HJ.out];omega
    ·rw[List.length_drop,HJ.out];omega
    ·rw[List.length_take,HJ.out];omega
    ·rw[List.length_drop,HJ.out];omega
    ·rw[List.length_drop,List.length_take,List.length_append,HJ.out,HI.out];omega
    ·refine Lib.hid ?_
     rw[<-HE.out,List.append_assoc Q,List.take_append_drop,List.append_assoc (Q++V)]
    ·exact Lib.hid (by simpa only[List.append_assoc] using hS2)
  ·
   subst hij
   have z1b:((i:Int) != (i:Int))=false:=by simp
   have HC:Hid (Calls Tryz.prog 394 #[.slice (some ⟨blk,off,none⟩) N cap,.int .i64 ((m:Int)-(i:Int)),.int .i64 (m:Int),.int .i64 (i:Int),.func (.func 291) #[] #[]] wr (SwOk w0 blk off (Q++V++[]++U++T))):=by
    rw[hmi]
    exact Lib.hid (swapRange_any w0 blk off cap N l0 R Q U [] V T i Q.length m HI.out HJ.out rfl (by simp;omega) HNN.out (by simp only[List.length_append,List.length_nil,HI.out,HJ.out];omega) h6 wr (by rw[List.append_nil];exact HS.out))
   clear hmi
   go_wp2_with(first|(go_at_call 394;refine HC.out.mono ?_;rintro e w2 ⟨rfl,hS2⟩)|fail)
   go_end0
   exact⟨rfl,by rw[<-HE.out];simpa only[List.append_nil] using hS2⟩
  ·
   have HC:Hid (Calls Tryz.prog 394 #[.slice (some ⟨blk,off,none⟩) N cap,.int .i64 ((m:Int)-(i:Int)),.int .i64 (m:Int),.int .i64 (j:Int),.func (.func 291) #[] #[]] wr (SwOk w0 blk off (Q++V++U.drop j++U.take j++T))):=by
    rw[hmi]
    have h1:(U.take j).length=j:=by rw[List.length_take,HI.out];omega
    have h2:(U.drop j).length=i-j:=by rw[List.length_drop,HI.out]
    have e3:Q++U++V++T=Q++U.take j++U.drop j++V++T:=by
     conv=>lhs;rw[<-List.take_append_drop j U]
     simp only[List.append_assoc]
    exact Lib.hid (swapRange_any w0 blk off cap N l0 R Q (U.take j) (U.drop j) V T j Q.length m h1 HJ.out rfl (by rw[h2];omega) HNN.out (by simp only[List.length_append,h1,h2,HJ.out];omega) h6 wr (by rw[<-e3];exact HS.out))
   have z1b:((i:Int) != (j:Int))=true:=by simp;omega
   have z1:(i:Int)≠(j:Int):=by omega
   have z2:(j:Int)<(i:Int):=by omega
   clear hmi
   go_wp2_with(first|(go_at_call 394;refine HC.out.mono ?_;rintro e w2 ⟨rfl,hS2⟩)|fail)
   go_roundg i
   case measure=>have:=HI.out;have:=HJ.out;omega
   case rel =>
    refine⟨Q++V,U.drop j,U.take j,T, ?_, ?_, ?_, ?_, ?_, ?_, ?_, ?_, ?_⟩
    ·rw[List.length_drop,HI.out];congr 1;omega
    ·rw[List.length_take,HI.out];congr 1;omega
    ·rw[List.length_drop,List.length_take,HI.out];omega
    ·rw[List.length_drop,HI.out];omega
    ·rw[List.length_take,HI.out];omega
    ·rw[List.length_append,List.length_drop,HI.out,HJ.out];omega
    ·rw[List.length_append,List.length_drop,List.length_take,HI.out,HJ.out];omega
    ·refine Lib.hid ?_
     rw[<-HE.out,List.append_assoc (Q++V),List.take_append_drop]
    ·exact Lib.hid hS2
end Go.Proofs.YtkibdkfdffkkfaaGreatDoor
