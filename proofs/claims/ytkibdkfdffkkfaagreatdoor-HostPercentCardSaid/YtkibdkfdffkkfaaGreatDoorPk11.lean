import Derived.Test.YtkibdkfdffkkfaaGreatDoorPk10
import Derived.Great.BuildSlice
set_option maxRecDepth 100000
set_option maxHeartbeats 8000000
namespace Go.Proofs.YtkibdkfdffkkfaaGreatDoor
open Go.RowKit Norm
def cmpZ (x y:Int):Int:=if x<y then -1 else if y<x then 1 else 0
theorem cmpR_any(x y:Int)(w:World):Calls Tryz.prog 386 #[.int .i32 x,.int .i32 y] w (Gives (.int .i64 (cmpZ x y)) w):=by
 by_cases h1:x<y
 ·have HC:Hid (cmpZ x y = -1):=Lib.hid (by unfold cmpZ;rw[if_pos h1])
  go_enter Tryz.func386,Tryz.ntmps386
  go_wp2
  go_ret
  exact⟨by rw[HC.out];rfl,rfl⟩
 ·by_cases h2:y<x
  ·have HC:Hid (cmpZ x y=1):=Lib.hid (by unfold cmpZ;rw[if_neg h1,if_pos h2])
   go_enter Tryz.func386,Tryz.ntmps386
   go_wp2
   go_ret
   exact⟨by rw[HC.out];rfl,rfl⟩
  ·have HC:Hid (cmpZ x y=0):=Lib.hid (by unfold cmpZ;rw[if_neg h1,if_neg h2])
   go_enter Tryz.func386,Tryz.ntmps386
   go_wp2
   go_ret
   exact⟨by rw[HC.out];rfl,rfl⟩
theorem pairCmp_any(a b c r:Int)(w:World):Calls Tryz.prog 385 #[.agg #[.int .i32 a,.int .i32 b,.int .i32 c],.int .i32 r] w (Tells (.int .i64 (cmpZ a r)) w):=by
 have HC:=Lib.hid (fun w=>cmpR_any a r w)
 go_enter Tryz.func385,Tryz.ntmps385
 go_wp2_with(first|(go_at_call 386;refine (HC.out _).mono ?_;rintro e w' ⟨rfl,rfl⟩)|fail)
 go_ret
 exact tells_alloc _ rfl
def PairsAt (w:World) (B:Nat):Prop:=w.heap[B]? = some (.cells PC 311 (0,0))
theorem PairsAt.below{w w':World}{B:Nat}(h:PairsAt w B)(hb:Below w.heap.size w w'):PairsAt w' B:=(hb.block B (Array.getElem?_eq_some_iff.1 h).1).trans h
def wh (i:Nat):Int:=(tabP.getD i (0,0,0)).1
def p1 (i:Nat):Int:=(tabP.getD i (0,0,0)).2.1
def p2 (i:Nat):Int:=(tabP.getD i (0,0,0)).2.2
theorem pairs_cells:∀ i,i<81->PC[3*i]? = some (.int .i32 (wh i))/\PC[3*i+1]? = some (.int .i32 (p1 i))/\PC[3*i+2]? = some (.int .i32 (p2 i)):=by
 have h:∀ i∈List.range 81,PC[3*i]? = some (.int .i32 (wh i))/\PC[3*i+1]? = some (.int .i32 (p1 i))/\PC[3*i+2]? = some (.int .i32 (p2 i)):=by
  have hb:(List.range 81).all (fun i=>(match PC[3*i]? with|some (.int .i32 n)=>n==wh i|_=>false)&&(match PC[3*i+1]? with|some (.int .i32 n)=>n==p1 i|_=>false)&&(match PC[3*i+2]? with|some (.int .i32 n)=>n==p2 i|_=>false))=true:=by kernel_rfl
  intro i hi
  have:=List.all_eq_true.1 hb i hi
  simp only[Bool.and_eq_true]at this
  obtain⟨⟨h1,h2⟩,h3⟩:=this
  refine⟨?_, ?_, ?_⟩
  ·split at h1
   ·rename_i n hn;rw[hn,eq_of_beq h1]
   ·cases h1
  ·split at h2
   ·rename_i n hn;rw[hn,eq_of_beq h2]
   ·cases h2
  ·split at h3
   ·rename_i n hn;rw[hn,eq_of_beq h3]
   ·cases h3
 exact fun i hi=>h i (List.mem_range.2 hi)
theorem wh_rise:∀ i j,i<j->j<81->wh i<wh j:=by
 have h:(List.range 81).all (fun j=>(List.range j).all fun i=>decide (wh i<wh j))=true:=by kernel_rfl
 intro i j hij hj
 have h1:=List.all_eq_true.1 h j (List.mem_range.2 hj)
 have h2:=List.all_eq_true.1 h1 i (List.mem_range.2 hij)
 simpa using h2
theorem PairsAt.cells{w:World}{B i:Nat}(h:PairsAt w B)(hi:i<81):w.cell? ⟨B,i*3,none⟩=some (.int .i32 (wh i))/\w.cell? ⟨B,i*3+1,none⟩=some (.int .i32 (p1 i))/\w.cell? ⟨B,i*3+2,none⟩=some (.int .i32 (p2 i)):=by
 rw[Nat.mul_comm i 3]
 obtain⟨h1,h2,h3⟩:=pairs_cells i hi
 exact⟨by rw[cell_of_row w B _ PC _ _ h];exact h1,by rw[cell_of_row w B _ PC _ _ h];exact h2,by rw[cell_of_row w B _ PC _ _ h];exact h3⟩
def At (r:Int) (i:Nat):Prop:=(∀ t,t<i->wh t<r)/\∀ t,i<=t->t<81->r<=wh t
def Found (r:Int) (w:World) (e:Ending) (w':World):Prop:=∃ i:Nat,i<=81/\At r i/\e = .returned (.tuple #[.int .i64 (i:Int),.bool (decide (i<81/\wh i=r))])/\Below w.heap.size w w'
theorem search_any(B:Nat)(r:Int)(w:World)(hP:PairsAt w B) :
  Calls Tryz.prog 384 #[.slice (some ⟨B,0,none⟩) 81 81,.int .i32 r,.func (.func 385) #[] #[]] w (Found r w):=by
 go_enter Tryz.func384,Tryz.ntmps384
 go_wp2
 go_loopg [9,10] 81 (fun k s9 s10 wr => ∃ i j:Nat,s9 = .int .i64 (i:Int)/\s10 = .int .i64 (j:Int)/\k=j-i/\i<=j/\j<=81/\Hid (∀ t,t<i->wh t<r)/\Hid (∀ t,j<=t->t<81->r<=wh t)/\Below w.heap.size w wr)
 case atStart=>exact⟨0,81,rfl,rfl,rfl,by omega,by omega,Lib.hid (fun t ht=>by omega),Lib.hid (fun t h1 h2=>by omega),Below.refl _ _⟩
 case round =>
  obtain⟨i,j,rfl,rfl,rfl,hij,hj,H1,H2,hB⟩:=hrel
  by_cases hlt:i<j
  ·obtain⟨m,hm⟩:∃ m,m=(i+j)/2:=⟨_,rfl⟩
   have hmi:i<=m:=by omega
   have hmj:m<j:=by omega
   have hcast:((i:Int)+(j:Int))/2=(m:Int):=by omega
   clear hm
   go_upto_region 4 with fail
   go_cut [11] from 15 to 34 (fun s11 wx=>s11 = .int .i64 (m:Int)/\wx=wr)
   case first =>
    go_wp2_with fail
    go_meet
    exact⟨by first|rfl|go_num,rfl⟩
   case rest =>
    obtain⟨rfl,hwc⟩:=hcut
    rw[hwc]
    clear hwc hcast
    have hPr:=hP.below hB
    obtain⟨c0,c1,c2⟩:=hPr.cells (i:=m) (by omega)
    have hm81:(m:Int)<81:=by omega
    have HPC:=Lib.hid (pairCmp_any (wh m) (p1 m) (p2 m) r wr)
    by_cases hwm:wh m<r
    ·have hz:cmpZ (wh m) r<0:=by unfold cmpZ;rw[if_pos hwm];omega
     go_wp2_with(first|(go_at_call 385;refine HPC.out.mono ?_;rintro e w2 ⟨rfl,hB2⟩)|fail)
     go_roundg (j-(m+1))
     case measure=>omega
     case rel=>exact⟨m+1,j,by go_num,rfl,rfl,by omega,by omega,Lib.hid (fun t ht=>by
      rcases Nat.lt_or_ge t m with h|h
      ·exact Int.lt_trans (wh_rise t m h (by omega)) hwm
      ·obtain rfl:t=m:=by omega
       exact hwm),H2,hB.trans (hB2.mono hB.size)⟩
    ·have hz:¬ cmpZ (wh m) r<0:=by unfold cmpZ;rw[if_neg hwm];split<;>omega
     go_wp2_with(first|(go_at_call 385;refine HPC.out.mono ?_;rintro e w2 ⟨rfl,hB2⟩)|fail)
     go_roundg (m-i)
     case measure=>omega
     case rel=>exact⟨i,m,rfl,rfl,rfl,by omega,by omega,H1,Lib.hid (fun t h1 h2=>by
      rcases Nat.lt_or_ge m t with h|h
      ·exact Int.le_of_lt (Int.lt_of_le_of_lt (hwm) (wh_rise m t h h2))
      ·obtain rfl:t=m:=by omega
       exact hwm),hB.trans (hB2.mono hB.size)⟩
  ·obtain rfl:i=j:=by omega
   have HAt:Hid (At r i):=Lib.hid ⟨H1.out,H2.out⟩
   have hPr:=hP.below hB
   by_cases h81:i<81
   ·obtain⟨c0,c1,c2⟩:=hPr.cells (i:=i) h81
    have h81z:(i:Int)<81:=by omega
    have HPC:=Lib.hid (pairCmp_any (wh i) (p1 i) (p2 i) r wr)
    have hge:r<=wh i:=H2.out i (Nat.le_refl _) h81
    have HB2:Hid ((cmpZ (wh i) r==0)=decide (i<81/\wh i=r)):=Lib.hid (by
     unfold cmpZ
     rw[if_neg (by omega)]
     by_cases he:wh i=r
     ·rw[if_neg (by omega),decide_eq_true ⟨h81,he⟩];rfl
     ·rw[if_pos (by omega),decide_eq_false (fun h=>he h.2)];rfl)
    clear H1 H2 hP hPr hge
    go_wp2_with(first|(go_at_call 385;refine HPC.out.mono ?_;rintro e w2 ⟨rfl,hB2⟩)|fail)
    go_ret2
    exact⟨i,by omega,HAt.out,by rw[HB2.out];rfl,hB.trans (hB2.mono hB.size)⟩
   ·have h81z:¬ (i:Int)<81:=by omega
    go_wp2_with fail
    go_ret2
    exact⟨i,by omega,HAt.out,by rw[decide_eq_false (fun h=>h81 h.1)];rfl,hB⟩
def pairR (r:Int):Option (Int × Int):=(tabP.find? (fun p=>p.1==r)).map (·.2)
theorem pairR_at:∀ i,i<81->pairR (wh i)=some (p1 i,p2 i):=by
 have h:(List.range 81).all (fun i=>pairR (wh i)==some (p1 i,p2 i))=true:=by kernel_rfl
 intro i hi
 exact eq_of_beq (List.all_eq_true.1 h i (List.mem_range.2 hi))
theorem pairR_none{r:Int}(h:∀ t,t<81->wh t≠r):pairR r=none:=by
 unfold pairR
 rw[Option.map_eq_none_iff,List.find?_eq_none]
 intro p hp
 obtain⟨i,hi,rfl⟩:=List.getElem_of_mem hp
 have h81:tabP.length=81:=by kernel_rfl
 have:=h i (by omega)
 unfold wh at this
 rw[List.getD_eq_getElem?_getD,List.getElem?_eq_getElem hi]at this
 simpa using this
theorem pairR_of{r:Int}{i:Nat}(h:At r i)(hi:i<=81):pairR r=if i<81/\wh i=r then some (p1 i,p2 i) else none:=by
 split
 ·rename_i hc;rw[<-hc.2];exact pairR_at i hc.1
 ·rename_i hc
  refine pairR_none fun t ht he => ?_
  rcases Nat.lt_or_ge t i with hlt|hge
  ·have:=h.1 t hlt;omega
  ·have h1:i<81:=by omega
   have h2:=h.2 i (Nat.le_refl _) h1
   rcases Nat.lt_or_ge i t with h3|h3
   ·have h4:=wh_rise i t h3 ht;omega
   ·obtain rfl:i=t:=by omega
    exact hc ⟨h1,he⟩
def pairV (r:Int):Value:=match pairR r with
 | some p => .tuple #[prt p,.bool true]
 | none => .tuple #[prt (0,0),.bool false]
theorem box_set{w:World}{B:Nat}{a b x y:Value}{t:TypeId}(h:w.heap[B]? = some (.cells #[a,b] t (0,0))) :
  ((w.setCell ⟨B,0,none⟩ x).setCell ⟨B,1,none⟩ y).heap[B]? = some (.cells #[x,y] t (0,0)):=by
 simp[World.setCell,Array.getElem?_modify,h]
theorem res_paired{w:World}{B:Nat}{a b v:Value}{tmps:Array Value}(h:w.heap[B]? = some (.cells #[a,b] 278 (0,0)))(t2:tmps[2]? = some (.pointer (some ⟨B,0,none⟩)):=by rfl)(t3:tmps[3]? = some v:=by rfl) :
  (results Tryz.f363 tmps).run Tryz.prog w = .ok (.tuple #[.agg #[a,b],v]) w:=by
 obtain⟨c0,c1,_,_⟩:=box_parts h
 simp[results,Tryz.results363,go_sem,c0,c1,t2,t3]
theorem paired_any(r:Int)(w:World):Calls Tryz.prog 363 #[.int .i32 r] w (Tells (pairV r) w):=by
 have HP:=Lib.hid pairs_any
 go_enter Tryz.func363,Tryz.ntmps363
 go_upto_region 1 with fail
 rename_i K0 hK0
 obtain⟨W1,hW1⟩:∃ W1,w.alloc (.cells #[.int .i32 0,.int .i32 0] 278)=W1:=⟨_,rfl⟩
 have hb1:Below w.heap.size w W1:=by rw[<-hW1];exact (Below.refl _ w).alloc (Nat.le_refl _) _
 have hs1:w.heap.size<W1.heap.size:=by rw[<-hW1];show _<(w.heap.push _).size;simp
 have hg1:W1.heap[w.heap.size]? = some (.cells #[.int .i32 0,.int .i32 0] 278 (0,0)):=by rw[<-hW1];exact heap_alloc_new w _
 rw[hW1]
 clear hW1
 obtain⟨W2,hW2⟩:∃ W2,W1.alloc (.cells PC 311)=W2:=⟨_,rfl⟩
 have hb2:Below W1.heap.size W1 W2:=by rw[<-hW2];exact (Below.refl _ W1).alloc (Nat.le_refl _) _
 refine wp_region_list (wpList_callTo rfl _ rfl 279 #[] (by kernel_rfl) (.agg PC) W2 (by rw[<-hW2];exact HP.out W1) ?_)
 clear hW2
 obtain⟨B,hB⟩:∃ B,W2.heap.size=B:=⟨_,rfl⟩
 refine wpList_straight_n 1 _ _ _ _ _ (show straight _ _ _ _=some ({ tmps:=#[.int .i32 r,undef,.pointer (some ⟨w.heap.size,0,none⟩),.bool false,.pointer (some ⟨W2.heap.size,0,none⟩),undef,undef,.agg PC,undef,undef,undef,undef,undef,undef,undef,undef,undef,undef,undef,undef,undef,undef,undef,undef,undef,undef],defers:=[] },W2.alloc (.cells PZ 311)) from by kernel_rfl) ?_
 refine wpList_plain rfl fun K hK => ?_
 refine wp_store_row 311 _ _ rfl W2.heap.size PC rfl rfl 311 PZ (heap_alloc_new W2 _) (by kernel_rfl) (by kernel_rfl) (by kernel_rfl) ?_
 refine hK _ _ ?_
 rw[setRow_alloc]
 have hP3:PairsAt (W2.alloc (.cells PC 311)) B:=by rw[<-hB];exact heap_alloc_new W2 _
 rw[hB]
 obtain⟨W3,hW3⟩:∃ W3,W2.alloc (.cells PC 311)=W3:=⟨_,rfl⟩
 have hb3:Below W2.heap.size W2 W3:=by rw[<-hW3];exact (Below.refl _ W2).alloc (Nat.le_refl _) _
 rw[hW3]at hP3 ⊢
 clear hW3
 have hw3:Below w.heap.size w W3:=(hb1.trans (hb2.mono (Nat.le_of_lt hs1))).trans (hb3.mono (Nat.le_trans (Nat.le_of_lt hs1) hb2.size))
 have hg3:W3.heap[w.heap.size]? = some (.cells #[.int .i32 0,.int .i32 0] 278 (0,0)):=by
  rw[hb3.block _ (Nat.lt_of_lt_of_le hs1 hb2.size),hb2.block _ hs1];exact hg1
 have HS:=Lib.hid (search_any B r W3 hP3)
 clear hb1 hb2 hb3 hg1 HP
 refine hK0 _ _ ?_
 clear hK K hK0 K0
 show Code.wp _ _ _ { tmps:=#[.int .i32 r,undef,.pointer (some ⟨w.heap.size,0,none⟩),.bool false,.pointer (some ⟨B,0,none⟩),undef,undef,.agg PC,undef,undef,undef,undef,undef,undef,undef,undef,undef,undef,undef,undef,undef,undef,undef,undef,undef,undef],defers:=[] } W3
 go_upto_region 3 with(first|(go_at_call 384;refine HS.out.mono ?_;rintro e w4 ⟨i,hi,hAt,rfl,hb4⟩)|fail)
 have hP4:=hP3.below hb4
 have hw4:Below w.heap.size w w4:=hw3.trans (hb4.mono hw3.size)
 have hg4:w4.heap[w.heap.size]? = some (.cells #[.int .i32 0,.int .i32 0] 278 (0,0)):=by
  rw[hb4.block _ (Array.getElem?_eq_some_iff.1 hg3).1];exact hg3
 obtain⟨c0,c1,f0,f1⟩:=box_parts hg4
 have HV:=Lib.hid (pairR_of hAt hi)
 clear hP3 hw3 hg3 hb4 HS hAt
 by_cases hc:i<81/\wh i=r
 ·have HE:Hid (pairV r = .tuple #[prt (p1 i,p2 i),.bool true]):=Lib.hid (by unfold pairV;rw[HV.out,if_pos hc])
  obtain⟨q0,q1,q2⟩:=hP4.cells hc.1
  have h81:(i:Int)<81:=by omega
  clear HV hP4
  rw[show (decide (i<81)&&decide (wh i=r))=true from by simp[hc.1,hc.2]]
  go_wp2_with fail
  go_region
  go_wp2_with fail
  refine bodyPost_ret (res_paired (B:=w.heap.size) (a:=.int .i32 (p1 i)) (b:=.int .i32 (p2 i)) (by exact box_set hg4)) rfl ?_
  exact⟨by rw[HE.out];rfl,((hw4.setCell (Nat.le_refl _) _).setCell (Nat.le_refl _) _).drew⟩
 ·have HE:Hid (pairV r = .tuple #[prt (0,0),.bool false]):=Lib.hid (by unfold pairV;rw[HV.out,if_neg hc])
  clear HV hP4
  rw[show (decide (i<81)&&decide (wh i=r))=false from by rw[<-Bool.decide_and];exact decide_eq_false hc]
  go_wp2_with fail
  refine bodyPost_ret (res_paired (box_set hg4)) rfl ?_
  exact⟨by rw[HE.out];rfl,(hw4.setCell (Nat.le_refl _) _).setCell (Nat.le_refl _) _⟩
def spl (r:Int):Option (Int × Int):=if syl r=true then some (sylParts r) else pairR r
def optV:Option (Int × Int)->Value
 | some p => .tuple #[.agg #[.int .i32 p.1,.int .i32 p.2],.bool true]
 | none => .tuple #[.agg #[.int .i32 0,.int .i32 0],.bool false]
theorem pairV_opt(r:Int):pairV r=optV (pairR r):=by unfold pairV;cases pairR r<;>rfl
theorem res_split{w:World}{B:Nat}{a b v:Value}{tmps:Array Value}(h:w.heap[B]? = some (.cells #[a,b] 278 (0,0)))(t2:tmps[2]? = some (.pointer (some ⟨B,0,none⟩)):=by rfl)(t3:tmps[3]? = some v:=by rfl) :
  (results Tryz.f321 tmps).run Tryz.prog w = .ok (.tuple #[.agg #[a,b],v]) w:=by
 obtain⟨c0,c1,_,_⟩:=box_parts h
 simp[results,Tryz.results321,go_sem,c0,c1,t2,t3]
theorem kept_box{w w4:World}{a b:Value}{t:TypeId}(h:Below (w.alloc (.cells #[a,b] t)).heap.size (w.alloc (.cells #[a,b] t)) w4) :
  w4.heap[w.heap.size]? = some (.cells #[a,b] t (0,0))/\Below w.heap.size w w4:=by
 have hn:=alloc_heap_new' w (.cells #[a,b] t)
 refine⟨(h.block _ (Array.getElem?_eq_some_iff.1 hn).1).trans hn, ?_⟩
 have h1:Below w.heap.size w (w.alloc (.cells #[a,b] t)):=(Below.refl _ w).alloc (Nat.le_refl _) _
 exact h1.trans (h.mono h1.size)
theorem alloc_old{w:World}{B:Nat}{o:Obj}(o':Obj)(h:w.heap[B]? = some o):(w.alloc o').heap[B]? = some o:=by
 rw[Below.heap_alloc _ _ _ (Array.getElem?_eq_some_iff.1 h).1];exact h
theorem below_old{w w':World}{B:Nat}{o:Obj}(h:w.heap[B]? = some o)(hb:Below w.heap.size w w'):w'.heap[B]? = some o :=
 (hb.block _ (Array.getElem?_eq_some_iff.1 h).1).trans h
theorem split_any(r:Int)(w:World)(h0:-2147483648<=r)(h1:r<=2147483647):Calls Tryz.prog 321 #[.int .i32 r] w (Tells (optV (spl r)) w):=by
 cases hs:syl r with
 | true =>
  have HS:=Lib.hid (fun w=>by have h:=syllable_any r w h0 h1;rw[sylV_yes hs rfl]at h;exact h)
  have HE:Hid (optV (spl r) = .tuple #[.agg #[.int .i32 (sylParts r).1,.int .i32 (sylParts r).2],.bool true]):=Lib.hid (by unfold spl;rw[if_pos hs];rfl)
  unfold prt at HS
  generalize (sylParts r).1=x at HS HE
  generalize (sylParts r).2=y at HS HE
  clear hs
  go_enter Tryz.func321,Tryz.ntmps321
  go_wp2_with(first|(go_at_call 362;refine (HS.out _).mono ?_;rintro e w4 ⟨rfl,hb4⟩;obtain⟨hg4,hw4⟩:=kept_box hb4;clear hb4;have hg5:=alloc_old (.cells #[.int .i32 x,.int .i32 y] 278) hg4;obtain⟨c0,c1,f0,f1⟩:=box_parts hg5)|fail)
  refine bodyPost_ret (res_split (box_set hg5)) rfl ?_
  exact⟨by rw[HE.out];rfl,((hw4.alloc hw4.size _).setCell (Nat.le_refl _) _).setCell (Nat.le_refl _) _⟩
 | false =>
  have HS:=Lib.hid (fun w=>by have h:=syllable_any r w h0 h1;rw[sylV_no hs]at h;exact h)
  have HP:=Lib.hid (fun w=>by have h:=paired_any r w;rw[pairV_opt]at h;exact h)
  have HE:Hid (spl r=pairR r):=Lib.hid (by unfold spl;rw[if_neg (by rw[hs];exact Bool.false_ne_true)])
  rw[HE.out]
  clear HE
  unfold prt at HS
  obtain⟨x,y,b,hv⟩:∃ x y b,optV (pairR r) = .tuple #[.agg #[.int .i32 x,.int .i32 y],.bool b]:=by cases pairR r<;>exact⟨_,_,_,rfl⟩
  rw[hv]at HP ⊢
  clear hv hs
  go_enter Tryz.func321,Tryz.ntmps321
  go_wp2_with(first|(go_at_call 362;refine (HS.out _).mono ?_;rintro e w4 ⟨rfl,hb4⟩;obtain⟨hg4,hw4⟩:=kept_box hb4;clear hb4;have hg5:=alloc_old (.cells #[.int .i32 0,.int .i32 0] 278) hg4)|(go_at_call 363;refine (HP.out _).mono ?_;rintro e w5 ⟨rfl,hb5⟩;have hg6:=below_old hg5 hb5;obtain⟨c0,c1,f0,f1⟩:=box_parts hg6)|fail)
  refine bodyPost_ret (res_split (box_set hg6)) rfl ?_
  have hw5:=hw4.alloc hw4.size (.cells #[.int .i32 0,.int .i32 0] 278)
  exact⟨rfl,((hw5.trans (hb5.mono hw5.size)).setCell (Nat.le_refl _) _).setCell (Nat.le_refl _) _⟩
theorem info_int32:(Tryz.prog.info? 21).map (fun i=>(i.zero,i.size,i.bytes))=some (some (.int .i32 0),1,4):=by kernel_rfl
theorem info_split{i:TypeId}{z:Value}{a b:Nat}(h:(Tryz.prog.info? i).map (fun i=>(i.zero,i.size,i.bytes))=some (some z,a,b)):∃ x,Tryz.prog.info? i=some x/\x.zero=some z/\x.size=a/\x.bytes=b:=by
 cases hx:Tryz.prog.info? i with
 | none=>rw[hx]at h;cases h
 | some x=>rw[hx]at h;simp only[Option.map_some,Option.some.injEq,Prod.mk.injEq]at h;exact⟨x,rfl,h.1,h.2.1,h.2.2⟩
theorem row_box(w:World)(cs:Array Value)(t:TypeId)(news:List Value)(h:cs.toList=news):Row (w.alloc (.cells cs t)) (w.alloc (.cells cs t)).heap.size (some ⟨w.heap.size,0,none⟩) news:=by
 have:=row_new w cs t news h
 rwa [World.size_alloc]
theorem row_box2(w:World)(o:Obj)(cs:Array Value)(t:TypeId)(news:List Value)(h:cs.toList=news):Row ((w.alloc o).alloc (.cells cs t)) ((w.alloc o).alloc (.cells cs t)).heap.size (some ⟨w.heap.size+1,0,none⟩) news:=by
 have:=row_box (w.alloc o) cs t news h
 rwa [World.size_alloc w]at this
def Added (base n:Nat) (xs news:List Value) (w:World) (e:Ending) (w':World):Prop :=
 ∃ v,e = .returned v/\w'.ownsRow base 21 1 v (n+news.length) (xs++news)/\Below base w w'
theorem addLeaf_any(r:Int)(w:World)(h0:-2147483648<=r)(h1:r<=2147483647)(base n:Nat)(v:Value)(xs:List Value)(hn:n<=1000000)(hbase:base<=w.heap.size)
  (hown:w.ownsRow base 21 1 v n xs) (hr1:r≠9001) (hr2:r≠9002) (hs:spl r=none) :
  Calls Tryz.prog 281 #[v,.int .i32 r] w (Added base n xs [.int .i32 r] w):=by
 obtain⟨i0,hi,hzz0,hzz1,hzz2⟩:=info_split info_int32
 have H1:=Lib.hid (fun w=>by have h:=single_any r w;rw[if_neg hr1,if_neg hr2,decide_eq_false (fun h=>h.elim hr1 hr2)]at h;exact h)
 have H2:=Lib.hid (fun w=>by have h:=split_any r w h0 h1;rw[hs]at h;exact h)
 unfold optV at H2
 clear hs hr1 hr2 h0 h1
 go_enter Tryz.func281,Tryz.ntmps281
 go_wp2_with(first|(go_at_call 320;refine (H1.out _).mono ?_;rintro e w1 ⟨rfl,rfl⟩)|(go_at_call 321;refine (H2.out _).mono ?_;rintro e w2 ⟨rfl,hb2⟩;have hown2:=(own_below hown hb2).alloc (.cells #[.int .i32 0,.int .i32 0] 278))|(at_builtin;refine wpList_append_row _ rfl _ _ 22 rfl base 21 i0 (.int .i32 0) 1 4 Tryz.underlying22 hi hzz0 hzz1 hzz2 rfl (by decide) _ _ _ rfl (hown2.alloc _) _ _ _ _ [.int .i32 r] rfl rfl (row_box2 _ _ _ _ [.int .i32 r] rfl) (by simp[Value.oneCell']) (by unfold maxLen;omega) (by omega) (by have:=hb2.size;simp;omega) ?_;intro v2 w3 hown3 hg3)|fail)
 go_ret
 exact⟨v2,rfl,hown3,Below.grown (((hb2.mono hbase).alloc (Nat.le_trans hbase hb2.size) _).alloc (by rw[World.size_alloc];have:=hb2.size;omega) _) hg3 (by rw[World.size_alloc,World.size_alloc];have:=hb2.size;omega) (fun k hk=>(hown.lt k hk).1)⟩
end Go.Proofs.YtkibdkfdffkkfaaGreatDoor
