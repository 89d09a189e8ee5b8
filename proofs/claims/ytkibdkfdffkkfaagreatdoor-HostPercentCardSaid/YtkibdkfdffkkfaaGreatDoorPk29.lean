import Derived.Test.YtkibdkfdffkkfaaGreatDoorPk28
import Derived.Shelf.Spec.SlicesInsertGrow
set_option maxRecDepth 100000
set_option maxHeartbeats 8000000
namespace Go.Proofs.YtkibdkfdffkkfaaGreatDoor.Pn
open Go.RowKit Go.Shelf Puny
theorem info_i32s:(Tryz.prog.info? 21).map (·.size)=some 1:=by kernel_rfl
def put (l:List Nat) (i x:Nat):List Nat:=l.take i++x::l.drop i
theorem put_end(l:List Nat)(x:Nat):put l l.length x=l++[x]:=by simp[put]
theorem cn_put(l:List Nat)(i x:Nat):cn (put l i x)=(cn l).take i ++ .int .i32 (x:Int)::(cn l).drop i:=by simp[put,List.map_take,List.map_drop]
theorem put_len{l:List Nat}{i:Nat}(x:Nat)(h:i<=l.length):(put l i x).length=l.length+1:=by unfold put;simp;omega
def Inserted (base:Nat) (v:Value) (l:List Nat) (i x:Nat) (w:World) (e:Ending) (w':World):Prop :=
 ∃ v',e = .returned v'/\w'.ownsRow base 21 1 v' (l.length+1) (cn (put l i x))/\Grew w v w' v'
theorem Insert_end(base:Nat)(v:Value)(l:List Nat)(x vb:Nat)(w:World)(hown:w.ownsRow base 21 1 v l.length (cn l))(hl:l.length<=1000000)(hb:base<=w.heap.size)
  (hv:w.heap[vb]? = some (.cells #[.int .i32 (x:Int)] 21 (0,0))) :
  Calls Tryz.prog 308 #[v,.int .i64 l.length,.slice (some ⟨vb,0,none⟩) 1 1] w (Inserted base v l l.length x w):=by
 obtain⟨i0,hi,hz0,hz1,hz2⟩:=info_parts info_i32
 obtain⟨A,c,rfl⟩:=own_slice hown
 have hnw:∀ j u,[Value.int .i32 (x:Int)][j]? = some u->w.cell? ((⟨vb,0,none⟩:Addr).add j)=some u:=by
  intro j u hj
  rw[Go.WideShapes.add_plain,Nat.zero_add,cell_of_row _ _ _ _ _ (0,0) hv,<-hj]
  simp
 have hnc:l.length<=c:=by
  rcases hown.2 with ⟨h,h0⟩|⟨_,_,_,h,_,_,h2,_⟩
  ·omega
  ·cases h;exact h2
 have hc2:c<=maxLen:=by
  rcases hown.2 with ⟨h,h0⟩|⟨_,_,_,h,_,_,_,h2,_⟩
  ·obtain rfl:c=0:=by injection h
   exact Nat.zero_le _
  ·cases h;exact h2
 unfold maxLen at hc2
 have HL:=Lib.hid (put_end l x)
 obtain⟨m,hm⟩:∃ m,l.length=m:=⟨_,rfl⟩
 have HM:=Lib.hid hm
 rw[hm]at hown hl hnc HL ⊢
 clear hm
 by_cases hcm:c=m
 ·go_enter Tryz.func308,Tryz.ntmps308
  go_wp2_with(at_builtin;refine wpList_append_own_at _ rfl _ _ 22 rfl base 21 i0 (.int .i32 0) 1 4 Tryz.underlying22 hi hz0 hz1 hz2 rfl (by decide) _ _ _ rfl hown ⟨vb,0,none⟩ 1 1 [.int .i32 (x:Int)] rfl (by rfl) hnw (by simp[Value.oneCell']) (by unfold maxLen;omega) (by omega) hb ?_;intro v' w2 hown2 hgrow2 _ hblk2)
  all_goals
   go_ret
   exact⟨_,rfl,by rw[HM.out,HL.out];simpa using hown2,(Grew.refl w _).step hgrow2 (hblk2.imp_right fun e=>⟨_,e,Nat.le_refl _⟩)⟩
 ·go_enter Tryz.func308,Tryz.ntmps308
  go_wp2_with(at_builtin;refine wpList_append_own_at _ rfl _ _ 22 rfl base 21 i0 (.int .i32 0) 1 4 Tryz.underlying22 hi hz0 hz1 hz2 rfl (by decide) _ _ _ rfl hown ⟨vb,0,none⟩ 1 1 [.int .i32 (x:Int)] rfl (by rfl) hnw (by simp[Value.oneCell']) (by unfold maxLen;omega) (by omega) hb ?_;intro v' w2 hown2 hgrow2 _ hblk2)
  all_goals
   go_ret
   exact⟨_,rfl,by rw[HM.out,HL.out];simpa using hown2,(Grew.refl w _).step hgrow2 (hblk2.imp_right fun e=>⟨_,e,Nat.le_refl _⟩)⟩
theorem heap_setRow{w:World}{g:Nat}{cur cs:Array Value}{t:TypeId}(h:w.heap[g]? = some (.cells cur t (0,0))):(w.setRow g cs).heap[g]? = some (.cells cs t (0,0)):=by
 simp[World.setRow,Array.getElem?_modify,h]
theorem grown_setRow(w:World)(g:Nat)(cs:Array Value):w.grownBy (w.setRow g cs) (some g):=by
 refine⟨rfl,rfl,rfl,by simp[World.setRow],fun j hj hn => ?_⟩
 simp[World.setRow,Array.getElem?_modify]
 intro e;exact absurd (by rw[e]) hn
theorem heap_setRow_ne{w:World}{g j:Nat}{cs:Array Value}(h:j≠g):(w.setRow g cs).heap[j]? = w.heap[j]?:=by
 simp[World.setRow,Array.getElem?_modify]
 intro e;exact absurd e.symm h
theorem cell_drop{w:World}{g i:Nat}{cur:Array Value}{t:TypeId}{xs:List Value}(h:w.heap[g]? = some (.cells cur t (0,0)))(ht:cur.toList.take xs.length=xs) :
  ∀ j v,(xs.drop i)[j]? = some v->w.cell? ((⟨g,i,none⟩:Addr).add j)=some v:=by
 intro j v hj
 rw[List.getElem?_drop]at hj
 have hlt:i+j<xs.length:=(List.getElem?_eq_some_iff.1 hj).1
 have h2:=congrArg (fun L=>L[i+j]?) ht
 simp only[List.getElem?_take_of_lt hlt]at h2
 rw[Go.WideShapes.add_plain,cell_of_row _ _ _ _ _ (0,0) h,<-Array.getElem?_toList,h2]
 exact hj
theorem cell_one{w:World}{vb:Nat}{x:Value}{t:TypeId}(h:w.heap[vb]? = some (.cells #[x] t (0,0))):∀ j u,[x][j]? = some u->w.cell? ((⟨vb,0,none⟩:Addr).add j)=some u:=by
 intro j u hj
 rw[Go.WideShapes.add_plain,Nat.zero_add,cell_of_row _ _ _ _ _ (0,0) h,<-hj]
 simp
theorem two_copies{cur:List Value}{xs:List Value}{i:Nat}{x:Value}(hi:i<xs.length)(hc:xs.length+1<=cur.length)(ht:cur.take i=xs.take i) :
  let c1:=cur.take (i+1)++xs.drop i++cur.drop (i+1+(xs.drop i).length)
  (c1.take i++[x]++c1.drop (i+1)).take (xs.length+1)=xs.take i++x::xs.drop i:=by
 intro c1
 have h1:c1.take i=xs.take i:=by
  show (cur.take (i+1)++xs.drop i++_).take i=_
  rw[List.append_assoc,List.take_append_of_le_length (by rw[List.length_take];omega),List.take_take,Nat.min_eq_left (by omega),ht]
 have h2:c1.drop (i+1)=xs.drop i++cur.drop (i+1+(xs.drop i).length):=by
  show (cur.take (i+1)++xs.drop i++_).drop (i+1)=_
  rw[List.append_assoc,List.drop_append,List.drop_of_length_le (by rw[List.length_take];omega),List.length_take,Nat.min_eq_left (by omega),Nat.sub_self,List.drop_zero,List.nil_append]
 rw[h1,h2]
 have e:xs.take i++[x]++(xs.drop i++cur.drop (i+1+(xs.drop i).length))=(xs.take i++x::xs.drop i)++cur.drop (i+1+(xs.drop i).length):=by simp
 rw[e,List.take_append_of_le_length (by simp;omega),List.take_of_length_le (by simp;omega)]
theorem two_copies2{row xs:List Value}{i:Nat}{x:Value}(hi:i<xs.length)(hc:i<row.length)(ht:row.take i=xs.take i) :
  ((row.take i++[x]++row.drop (i+1)).take (i+1)++xs.drop i++(row.take i++[x]++row.drop (i+1)).drop (i+1+(xs.drop i).length)).take (xs.length+1)=xs.take i++x::xs.drop i:=by
 have h1:(row.take i++[x]++row.drop (i+1)).take (i+1)=xs.take i++[x]:=by
  rw[List.take_append_of_le_length (by simp;omega),List.take_of_length_le (by simp;omega),ht]
 rw[h1,List.take_append_of_le_length (by simp;omega),List.take_of_length_le (by simp;omega)]
 simp
theorem ins_mk{base g' c' m i x:Nat}{l:List Nat}{v v':Value}{w w':World}{cs:Array Value}(hm:l.length=m)(hv:v' = .slice (some ⟨g',0,none⟩) (m+1) c')(hh:w'.heap[g']? = some (.cells cs 21 (0,0)))(hb:base<=g')(hc:m+1<=c')(hc2:c'<=maxLen)
  (hs:cs.size=c') (ht:cs.toList.take (m+1)=cn (put l i x)) (hg:Grew w v w' v'):Inserted base v l i x w (.returned v') w':=by
 subst hm hv
 refine⟨_,rfl,⟨?_,.inr ⟨g',c',cs,rfl,hb,hh,hc,hc2,by rw[hs,Nat.mul_one],by rw[Nat.mul_one];exact ht⟩⟩,hg⟩
 have:=congrArg List.length ht
 have e:cs.toList.length=c':=by simp[hs]
 rw[List.length_take,e,Nat.min_eq_left hc]at this
 rw[Nat.mul_one];exact this.symm
theorem Insert_room(base g c:Nat)(l:List Nat)(i x vb:Nat)(w:World)(hown:w.ownsRow base 21 1 (.slice (some ⟨g,0,none⟩) l.length c) l.length (cn l))(hl:l.length<=1000000)(hi:i<l.length)(hroom:l.length+1<=c)
  (hv:w.heap[vb]? = some (.cells #[.int .i32 (x:Int)] 21 (0,0))) (hne:vb≠g) :
  Calls Tryz.prog 308 #[.slice (some ⟨g,0,none⟩) l.length c,.int .i64 i,.slice (some ⟨vb,0,none⟩) 1 1] w (Inserted base (.slice (some ⟨g,0,none⟩) l.length c) l i x w):=by
 obtain⟨cur,hbase,hg,hc2,hcs,hct⟩:∃ cur,base<=g/\w.heap[g]? = some (.cells cur 21 (0,0))/\c<=maxLen/\cur.size=c*1/\cur.toList.take (l.length*1)=cn l:=by
  rcases hown.2 with ⟨h,h0⟩|⟨g',c',cur,h,h1,h2,h3,h4,h5,h6⟩
  ·cases h
  ·cases h;exact⟨cur,h1,h2,h4,h5,h6⟩
 rw[Nat.mul_one]at hcs hct
 unfold maxLen at hc2
 have hcl:(cn l).length=l.length:=by simp
 have hov:∀ lb cb,(callFunc 340 #[.slice (some ⟨vb,0,none⟩) 1 1,.slice (some ⟨g,i+1,none⟩) lb cb]).run Tryz.prog w = .ok (.value (.bool false)) w:=fun lb cb=>by
  rw[run_callFunc_extern Tryz.func340 (by kernel_rfl) (by kernel_rfl) (by kernel_rfl) (e:=Extern.SlicesOverlaps.overlaps #[22,22] #[4]) (by kernel_rfl),
   Lib.run_overlaps_apart w 22 4 21 Tryz.underlying22 1 Tryz.sizeOf21 ⟨vb,0,none⟩ ⟨g,i+1,none⟩ 1 1 lb cb hne 21 21 1 c (by simp[World.shape?,hv]) (by simp[World.shape?,hg,hcs]) (by omega) (by simp[World.frozen?,hv]) (by simp[World.frozen?,hv])]
  rfl
 have hdl:((cn l).drop i).length=l.length-i:=by rw[List.length_drop,hcl]
 have hcp1:∀ ty dc sc,(Builtin.copy_ #[22,22] ty #[.slice (some ⟨g,i+1,none⟩) (l.length-i) dc,.slice (some ⟨g,i,none⟩) (l.length+1-i) sc]).run Tryz.prog w.drew =
   .ok (goInt ((cn l).drop i).length) (w.drew.setRow g (cur.toList.take (i+1)++(cn l).drop i++cur.toList.drop (i+1+((cn l).drop i).length)).toArray):=fun ty dc sc =>
  run_copy_row Tryz.prog w.drew _ _ ty 21 g (i+1) (l.length-i) dc ⟨g,i,none⟩ (l.length+1-i) sc cur 21 ((cn l).drop i) Tryz.underlying22 info_i32s hg (by rw[hdl];simp only[Nat.min_def];split<;>omega)
   (cell_drop (w:=w.drew) hg (by rw[hcl];exact hct)) (by rw[hdl];omega) (fun v hv=>one_cn l v (List.mem_of_mem_drop hv))
 obtain⟨C1,hC1⟩:∃ C1,C1=(cur.toList.take (i+1)++(cn l).drop i++cur.toList.drop (i+1+((cn l).drop i).length)).toArray:=⟨_,rfl⟩
 rw[<-hC1]at hcp1
 have hC1s:C1.size=c:=by rw[hC1];simp[hcs];omega
 have hcp2:∀ (W:World),W.heap=(w.setRow g C1).heap->∀ ty dc,(Builtin.copy_ #[22,22] ty #[.slice (some ⟨g,i,none⟩) (l.length+1-i) dc,.slice (some ⟨vb,0,none⟩) 1 1]).run Tryz.prog W =
   .ok (goInt 1) (W.setRow g (C1.toList.take i++[Value.int .i32 (x:Int)]++C1.toList.drop (i+1)).toArray):=fun W hW ty dc =>
  run_copy_row Tryz.prog W _ _ ty 21 g i (l.length+1-i) dc ⟨vb,0,none⟩ 1 1 C1 21 [.int .i32 (x:Int)] Tryz.underlying22 info_i32s (by rw[hW];exact heap_setRow hg) (by simp only[Nat.min_def];split<;>simp<;>omega)
   (cell_one (by rw[hW];exact (heap_setRow_ne hne).trans hv)) (by rw[hC1s];simp;omega) (by simp[Value.oneCell'])
 have hfin:=two_copies (cur:=cur.toList) (xs:=cn l) (i:=i) (x:=.int .i32 (x:Int)) (by rw[hcl];exact hi) (by rw[hcl];simp only[Array.length_toList];omega) (by
  have:=congrArg (List.take i) hct
  rw[List.take_take,Nat.min_eq_left (by omega)]at this
  exact this)
 have HFIN:=Lib.hid hfin
 have HCP1:=Lib.hid hcp1
 have HCP2:=Lib.hid hcp2
 have HOV:=Lib.hid hov
 have HC1:=Lib.hid hC1
 have HG:=Lib.hid hg
 have HCL:=Lib.hid hcl
 have HC1S:=Lib.hid hC1s
 obtain⟨m,hm⟩:∃ m,l.length=m:=⟨_,rfl⟩
 have HM:=Lib.hid hm
 have hcc:¬ c=i:=by omega
 have hcc2:¬ c=i+1:=by omega
 have hii:((i:Int)==(m:Int))=false:=by simp;omega
 clear hfin hcp1 hcp2 hov hC1 hC1s hcl hdl hct hcs hv hown
 rw[hm]at hl hi hroom HCP1 HCP2 ⊢
 clear hm
 have hov:=HOV.out
 have hw1:IntKind.i64.wrap ((i:Int)+1)=(i:Int)+1:=by rw[IntKind.wrap_i64];omega
 have hb1:0<=(i:Int)+1:=by omega
 have hin:i<=m:=by omega
 have hin2:i<=m+1:=by omega
 have hb3:(i:Int)<=(m:Int)+1:=by omega
 go_enter Tryz.func308,Tryz.ntmps308
 go_wp2_with(simp only[hov])
 go_region_law (refine step_copy_runI rfl _ _ 22 22 rfl (.slice (some ⟨g,i+1,none⟩) (m-i) (c-(i+1))) (.slice (some ⟨g,i,none⟩) (m+1-i) (c-i)) (by simp[Act.eval,Act.put]) (by simp[Act.eval,Act.put]) (HCP1.out _ _ _) ?_)
 have hcp2i:=HCP2.out (w.drew.setRow g C1) rfl 3 (c-i)
 go_wp2
 go_ret
 have hr1:(w.drew.setRow g C1).heap[g]? = some (.cells C1 21 (0,0)):=heap_setRow (w:=w.drew) HG.out
 have h9:=HFIN.out
 rw[HCL.out,HM.out]at h9
 have g1:w.grownBy (w.drew.setRow g C1) (some g):=by have:=grown_setRow w.drew g C1;exact⟨this.os,this.tape,this.output,this.size,this.block⟩
 refine ins_mk (m:=m) (g':=g) (c':=c) HM.out rfl (heap_setRow hr1) hbase hroom (by unfold maxLen;exact hc2) (by have:=HC1S.out;simp[this];omega) ?_ (((Grew.refl w _).step g1 (.inl rfl)).step (grown_setRow _ _ _) (.inl rfl))
 rw[cn_put,List.toList_toArray,HC1.out,List.toList_toArray]
 rw[List.append_assoc (List.take i _),List.singleton_append]at h9
 exact h9
theorem Insert_grow(base g c:Nat)(l:List Nat)(i x vb:Nat)(w:World)(hown:w.ownsRow base 21 1 (.slice (some ⟨g,0,none⟩) l.length c) l.length (cn l))(hl:l.length<=1000000)(hi:i<l.length)(hroom:c<l.length+1)(hb:base<=w.heap.size)
  (hv:w.heap[vb]? = some (.cells #[.int .i32 (x:Int)] 21 (0,0))) :
  Calls Tryz.prog 308 #[.slice (some ⟨g,0,none⟩) l.length c,.int .i64 i,.slice (some ⟨vb,0,none⟩) 1 1] w (Inserted base (.slice (some ⟨g,0,none⟩) l.length c) l i x w):=by
 obtain⟨cur,hg,hnc,hct⟩:∃ cur,w.heap[g]? = some (.cells cur 21 (0,0))/\l.length<=c/\cur.toList.take (l.length*1)=cn l:=by
  rcases hown.2 with ⟨h,h0⟩|⟨g',c',cur,h,h1,h2,h3,h4,h5,h6⟩
  ·cases h
  ·cases h;exact⟨cur,h2,h3,h6⟩
 rw[Nat.mul_one]at hct
 obtain⟨i0,hi0,hz0,hzs,hzb⟩:=info_parts info_i32
 have hcl:(cn l).length=l.length:=by simp
 have hgw:g<w.heap.size:=(Array.getElem?_eq_some_iff.1 hg).1
 have hvw:vb<w.heap.size:=(Array.getElem?_eq_some_iff.1 hv).1
 have hdl:((cn l).drop i).length=l.length-i:=by rw[List.length_drop,hcl]
 have htl:((cn l).take i).length=i:=by rw[List.length_take,hcl];omega
 have hik:i+(l.length+1-i)=l.length+1:=by omega
 have hold:(Builtin.firstCells i0.size i (.slice (some ⟨g,0,none⟩) i c)).run Tryz.prog w.drew = .ok ((cn l).take i).toArray w.drew:=by
  rw[hzs]
  exact run_firstCells_some w.drew 1 i ⟨g,0,none⟩ i c ((cn l).take i) (by rw[htl];omega) (fun j v hj=>by
   rw[List.getElem?_take]at hj
   split at hj
   ·have:=cell_drop (i:=0) hg (by rw[hcl];exact hct) j v (by simpa using hj)
    exact this
   ·cases hj)
 have hrz:∀ ty,(Builtin.append_ #[22,3] ty #[.slice (some ⟨g,0,none⟩) i c,.int .i64 ((l.length:Int)+1-(i:Int))]).run Tryz.prog w =
   .ok (.slice (some ⟨w.heap.size,0,none⟩) (l.length+1) (grownCap w (l.length+1) c 21)) (w.drew.alloc (.cells (((cn l).take i).toArray++Builtin.zeroCells (Value.int .i32 0).cells (l.length+1-i)++Builtin.zeroCells (Value.int .i32 0).cells (grownCap w (l.length+1) c 21-(l.length+1))) 21)):=fun ty=>by
  have h:=Lib.run_append_grow_zeros w 22 3 ty 21 i0 _ .i64 .i64 Tryz.underlying22 Tryz.underlying3 hi0 hz0 (some ⟨g,0,none⟩) i c ((cn l).take i) hold (l.length+1-i) (by omega) (by omega) (by omega) (by omega) (by rw[hzb];omega) (by rw[hzb,hik];exact growslice_fits hroom (by omega))
  rw[hik]at h
  rw[show (l.length:Int)+1-(i:Int)=((l.length+1-i:Nat):Int) by omega]
  exact h
 obtain⟨G,hG⟩:∃ G,G=grownCap w (l.length+1) c 21:=⟨_,rfl⟩
 have hGn:l.length+1<=G:=by rw[hG];exact grownCap_ge w _ _ _
 have hG63:G<=maxLen:=by rw[hG];exact grownCap_le_maxLen w (l.length+1) c 21 (by unfold maxLen;omega)
 rw[<-hG]at hrz
 obtain⟨ROW,hROW⟩:∃ ROW:Array Value,ROW=((cn l).take i).toArray++Builtin.zeroCells (Value.int .i32 0).cells (l.length+1-i)++Builtin.zeroCells (Value.int .i32 0).cells (G-(l.length+1)):=⟨_,rfl⟩
 rw[<-hROW]at hrz
 have hRs:ROW.size=G:=by rw[hROW];simp[Builtin.zeroCells,Value.cells];omega
 have hRt:ROW.toList.take i=(cn l).take i:=by
  rw[hROW]
  simp only[Array.toList_append,List.append_assoc]
  rw[List.take_append_of_le_length (by rw[htl];exact Nat.le_refl _),List.take_take,Nat.min_self]
 obtain⟨W1,hW1⟩:∃ W1,W1=(w.alloc (.cells ROW 21)).drew:=⟨_,rfl⟩
 have hN1:W1.heap[w.heap.size]? = some (.cells ROW 21 (0,0)):=by rw[hW1];exact World.alloc_heap_new w _
 have hv1:W1.heap[vb]? = some (.cells #[.int .i32 (x:Int)] 21 (0,0)):=by rw[hW1];exact (Below.heap_alloc _ _ _ hvw).trans hv
 have hg1:W1.heap[g]? = some (.cells cur 21 (0,0)):=by rw[hW1];exact (Below.heap_alloc _ _ _ hgw).trans hg
 have hcp1:∀ ty dc,(Builtin.copy_ #[22,22] ty #[.slice (some ⟨w.heap.size,i,none⟩) (l.length+1-i) dc,.slice (some ⟨vb,0,none⟩) 1 1]).run Tryz.prog W1 =
   .ok (goInt 1) (W1.setRow w.heap.size (ROW.toList.take i++[Value.int .i32 (x:Int)]++ROW.toList.drop (i+1)).toArray):=fun ty dc =>
  run_copy_row Tryz.prog W1 _ _ ty 21 w.heap.size i (l.length+1-i) dc ⟨vb,0,none⟩ 1 1 ROW 21 [.int .i32 (x:Int)] Tryz.underlying22 info_i32s hN1 (by simp only[Nat.min_def];split<;>simp<;>omega)
   (cell_one hv1) (by rw[hRs];simp;omega) (by simp[Value.oneCell'])
 obtain⟨R1,hR1⟩:∃ R1,R1=(ROW.toList.take i++[Value.int .i32 (x:Int)]++ROW.toList.drop (i+1)).toArray:=⟨_,rfl⟩
 rw[<-hR1]at hcp1
 have hR1s:R1.size=G:=by rw[hR1];simp[hRs];omega
 have hcp2:∀ ty dc sc,(Builtin.copy_ #[22,22] ty #[.slice (some ⟨w.heap.size,i+1,none⟩) (l.length-i) dc,.slice (some ⟨g,i,none⟩) (l.length-i) sc]).run Tryz.prog (W1.setRow w.heap.size R1).drew =
   .ok (goInt ((cn l).drop i).length) ((W1.setRow w.heap.size R1).drew.setRow w.heap.size (R1.toList.take (i+1)++(cn l).drop i++R1.toList.drop (i+1+((cn l).drop i).length)).toArray):=fun ty dc sc =>
  run_copy_row Tryz.prog (W1.setRow w.heap.size R1).drew _ _ ty 21 w.heap.size (i+1) (l.length-i) dc ⟨g,i,none⟩ (l.length-i) sc R1 21 ((cn l).drop i) Tryz.underlying22 info_i32s (heap_setRow hN1) (by rw[hdl];simp only[Nat.min_def];split<;>omega)
   (cell_drop (w:=(W1.setRow w.heap.size R1).drew) (show (W1.setRow w.heap.size R1).heap[g]? = _ from (heap_setRow_ne (by omega)).trans hg1) (by rw[hcl];exact hct)) (by rw[hdl];omega) (fun v hv=>one_cn l v (List.mem_of_mem_drop hv))
 have hfin:=two_copies2 (row:=ROW.toList) (xs:=cn l) (i:=i) (x:=.int .i32 (x:Int)) (by rw[hcl];exact hi) (by simp only[Array.length_toList];omega) hRt
 have hheap:=heap_setRow (w:=(W1.setRow w.heap.size R1).drew) (g:=w.heap.size) (cs:=(R1.toList.take (i+1)++(cn l).drop i++R1.toList.drop (i+1+((cn l).drop i).length)).toArray) (heap_setRow (w:=W1) hN1)
 have hgrew:Grew w (.slice (some ⟨g,0,none⟩) l.length c) ((W1.setRow w.heap.size R1).drew.setRow w.heap.size (R1.toList.take (i+1)++(cn l).drop i++R1.toList.drop (i+1+((cn l).drop i).length)).toArray) (.slice (some ⟨w.heap.size,0,none⟩) (l.length+1) G):=by
  have a1:w.grownBy W1 none:=by rw[hW1];have:=World.grownBy_alloc w (.cells ROW 21) none;exact⟨this.os,this.tape,this.output,this.size,this.block⟩
  have a2:=grown_setRow W1 w.heap.size R1
  have a3:=grown_setRow (W1.setRow w.heap.size R1).drew w.heap.size (R1.toList.take (i+1)++(cn l).drop i++R1.toList.drop (i+1+((cn l).drop i).length)).toArray
  have a4:w.grownBy ((W1.setRow w.heap.size R1).drew.setRow w.heap.size (R1.toList.take (i+1)++(cn l).drop i++R1.toList.drop (i+1+((cn l).drop i).length)).toArray) none :=
   (a1.andThen a2 (fun j e=>by cases e;exact .inl (Nat.le_refl _))).andThen (show (W1.setRow w.heap.size R1).grownBy _ (some w.heap.size) from ⟨a3.os,a3.tape,a3.output,a3.size,a3.block⟩) (fun j e=>by cases e;exact .inl (Nat.le_refl _))
  exact⟨a4.but _,.inr ⟨_,rfl,Nat.le_refl _⟩⟩
 obtain⟨R2,hR2⟩:∃ R2,R2=(R1.toList.take (i+1)++(cn l).drop i++R1.toList.drop (i+1+((cn l).drop i).length)).toArray:=⟨_,rfl⟩
 rw[<-hR2]at hcp2 hheap hgrew
 have hR2s:R2.size=G:=by rw[hR2];simp[hR1s];omega
 have hR2t:R2.toList.take (l.length+1)=cn (put l i x):=by
  rw[cn_put,hR2,List.toList_toArray,hR1,List.toList_toArray,<-hcl]
  exact hfin
 have HCP1:=Lib.hid hcp1
 have HCP2:=Lib.hid hcp2
 have HRZ:=Lib.hid hrz
 have HHEAP:=Lib.hid hheap
 have HGREW:=Lib.hid hgrew
 have HR2S:=Lib.hid hR2s
 have HR2T:=Lib.hid hR2t
 have HGN:=Lib.hid hGn
 have HG63:=Lib.hid hG63
 unfold maxLen at hG63
 have hbs:=hb
 clear hfin hcp1 hcp2 hrz hR1 hR1s hRs hROW hRt hG hcl hdl htl hik hold hct hv hown hheap hgrew hR2 hR2s hR2t hN1 hv1 hg1 hg hi0 hz0 hzs hzb
 obtain⟨m,hm⟩:∃ m,l.length=m:=⟨_,rfl⟩
 have HM:=Lib.hid hm
 rw[hm]at hl hi hroom hnc hGn HCP1 HCP2 HRZ HGREW HR2T HGN ⊢
 subst hW1
 clear hm
 have hcc:¬ c=i:=by omega
 have hGi:¬ G=i:=by omega
 have hGi1:¬ G=i+1:=by omega
 have hii:((i:Int)==(m:Int))=false:=by simp;omega
 have hw1:IntKind.i64.wrap ((i:Int)+1)=(i:Int)+1:=by rw[IntKind.wrap_i64];omega
 have hb1:0<=(i:Int)+1:=by omega
 have hin:i<=m:=by omega
 have hin2:i<=m+1:=by omega
 have hb3:(i:Int)<=(m:Int)+1:=by omega
 have hzz:(c:Int)<(m:Int)+1:=by omega
 have hcp1i:=HCP1.out 3 (G-i)
 go_enter Tryz.func308,Tryz.ntmps308
 go_wp2_with(at_builtin;refine Lib.wpList_append_run _ rfl _ _ _ _ rfl _ _ rfl rfl _ _ (HRZ.out _) ?_)
 go_region_law (refine step_copy_runI rfl _ _ 22 22 rfl (.slice (some ⟨w.heap.size,i+1,none⟩) (m-i) (G-(i+1))) (.slice (some ⟨g,i,none⟩) (m-i) (c-i)) (by simp[Act.eval,Act.put]) (by simp[Act.eval,Act.put]) (HCP2.out _ _ _) ?_)
 go_wp2
 go_ret
 exact ins_mk (m:=m) (g':=w.heap.size) (c':=G) HM.out rfl HHEAP.out hbs HGN.out HG63.out HR2S.out HR2T.out HGREW.out
theorem Insert_any(base:Nat)(v:Value)(l:List Nat)(i x vb:Nat)(w:World)(hown:w.ownsRow base 21 1 v l.length (cn l))(hl:l.length<=1000000)(hi:i<=l.length)(hb:base<=w.heap.size)
  (hv:w.heap[vb]? = some (.cells #[.int .i32 (x:Int)] 21 (0,0))) (hne:∀ j,v.ownBlock=some j->vb≠j) :
  Calls Tryz.prog 308 #[v,.int .i64 i,.slice (some ⟨vb,0,none⟩) 1 1] w (Inserted base v l i x w):=by
 by_cases he:i=l.length
 ·subst he;exact Insert_end base v l x vb w hown hl hb hv
 ·rcases hown.2 with ⟨rfl,h0⟩|⟨g,c,cur,rfl,_⟩
  ·omega
  ·by_cases hroom:l.length+1<=c
   ·exact Insert_room base g c l i x vb w hown hl (by omega) hroom hv (hne g rfl)
   ·exact Insert_grow base g c l i x vb w hown hl (by omega) (by omega) hb hv
attribute [local go_sem] Oper.semAt_some
def nat8 (l:List UInt8):List Nat:=l.map (·.toNat)
theorem runes_ascii(s:ByteArray)(h:∀ x∈s.data.toList,x.toNat<128):∀ (bound i:Nat) (acc:Array Value),i+bound=s.size->Conv.runesFrom s bound i acc=acc++(cn (nat8 (s.data.toList.drop i))).toArray
 | 0, i, acc, hi => by
  rw[Conv.runesFrom,List.drop_of_length_le (by simp;omega)];simp[nat8]
 | bound + 1, i, acc, hi => by
  have hlt:i<s.size:=by omega
  have hd:s.data.toList.drop i=s[i]::s.data.toList.drop (i+1):=List.drop_eq_getElem_cons (by simpa using hlt)
  have ha:(s[i]'hlt).toNat<128:=h _ (by
   have:s[i]∈s.data.toList.drop i:=by rw[hd];exact List.mem_cons_self ..
   exact List.mem_of_mem_drop this)
  rw[Conv.runesFrom,if_pos hlt,decode_ascii s i hlt ha]
  simp only
  rw[runes_ascii s h bound (i+1) _ (by omega),hd]
  simp[nat8]
theorem conv_runes(s:ByteArray)(w:World)(h:∀ x∈s.data.toList,x.toNat<128)(hs:s.size<=1000000) :
  ∃ c,(convert 9 22 (.string s)).run Tryz.prog w = .ok (.slice (some ⟨w.heap.size,0,none⟩) (nat8 s.data.toList).length c) (w.drew.alloc (.cells ((cn (nat8 s.data.toList)).toArray++Array.replicate (c-(nat8 s.data.toList).length) (.int .i32 0)) 21))/\(nat8 s.data.toList).length<=c/\c<=maxLen:=by
 have hr:=runes_ascii s h s.size 0 #[] (by omega)
 rw[List.drop_zero,Array.empty_append]at hr
 have hl:(Conv.runesFrom s s.size 0 #[]).size=(nat8 s.data.toList).length:=by rw[hr];simp
 have hl2:(nat8 s.data.toList).length=s.size:=by simp[nat8]
 have:=run_runes_of_string (P:=Tryz.prog) w 9 22 21 s Tryz.underlying9 Tryz.underlying22 Tryz.underlying21 (by rw[hl,hl2];omega)
 rw[hl,hr]at this
 exact⟨_,this,grownCap_ge w _ _ _,grownCap_le_maxLen w _ _ _ (by rw[hl2];unfold maxLen;omega)⟩
def DecI (b:List Nat) (w:World) (n1 B2 B3 B7 B8 B9 H:Nat) (pre:List (Nat × Bool)) (W:World):Prop :=
 ∃ (out : List Nat) (n i : Nat) (v : Value), insL b 128 0 pre = some (out, n, i) ∧ W.heap[B2]? = some (.cells #[.slice none 0 0] 22 (0, 0)) ∧ W.heap[B3]? = some (.cells #[.int .i64 0] 29 (0, 0)) ∧
  W.heap[B7]? = some (.cells #[v] 22 (0,0))/\W.heap[B8]? = some (.cells #[.int .i64 (n:Int)] 2 (0,0))/\W.heap[B9]? = some (.cells #[.int .i64 (i:Int)] 2 (0,0)) /\
  W.ownsRow w.heap.size 21 1 v out.length (cn out)/\(∀ j,v.ownBlock=some j->j<n1∨H<=j)/\Below w.heap.size w W/\i<=out.length/\n<=1114111/\out.length=b.length+pre.length
def DecX (b:List Nat) (w:World) (B2 B3:Nat) (pre:List (Nat × Bool)) (W:World):Prop :=
 insL b 128 0 pre=none/\W.heap[B2]? = some (.cells #[.slice none 0 0] 22 (0,0))/\W.heap[B3]? = some (.cells #[.int .i64 40] 29 (0,0))/\Below w.heap.size w W
theorem sca_iff(n:Nat):isSca (n:Int)=sca n:=by
 unfold isSca sca
 rw[decide_eq_decide]
 omega
theorem insL_snoc{b out:List Nat}{pre:List (Nat × Bool)}{n i d:Nat}(h:insL b 128 0 pre=some (out,n,i))(hs:sca (n+(i+d)/(out.length+1))=true) :
  insL b 128 0 (pre++[(d,true)])=some (put out ((i+d)%(out.length+1)) (n+(i+d)/(out.length+1)),n+(i+d)/(out.length+1),(i+d)%(out.length+1)+1):=by
 rw[insL_append,h]
 simp[insL,hs,put]
theorem insL_fail{b out:List Nat}{pre:List (Nat × Bool)}{n i d:Nat}{ok:Bool}(h:insL b 128 0 pre=some (out,n,i))(hs:(ok&&sca (n+(i+d)/(out.length+1)))=false) :
  insL b 128 0 (pre++[(d,ok)])=none:=by
 rw[insL_append,h]
 simp only[Option.bind_some,insL]
 rw[if_neg (by rw[hs];simp)]
theorem dec_round{b out:List Nat}{pre:List (Nat × Bool)}{w X X1 X2:World}{n1 B2 B3 B7 B8 B9 D H d n i:Nat}{v v2:Value}(_h2:B2<n1)(_h3:B3<n1)(h7:B7<n1)(h8:B8<n1)(h9:B9<n1)
  (_g2:w.heap.size<=B2) (_g3:w.heap.size<=B3) (g7:w.heap.size<=B7) (g8:w.heap.size<=B8) (g9:w.heap.size<=B9) (e28:B2≠B8) (e38:B3≠B8) (e78:B7≠B8) (e98:B9≠B8) (e27:B2≠B7) (e37:B3≠B7) (e97:B9≠B7) (e29:B2≠B9) (e39:B3≠B9)
  (hn1:n1<=D) (hD:D+2<=H) (hHX:H<=X.heap.size) (hins:insL b 128 0 pre=some (out,n,i)) (hsc:sca (n+(i+d)/(out.length+1))=true)
  (b2:X.heap[B2]? = some (.cells #[.slice none 0 0] 22 (0,0))) (b3:X.heap[B3]? = some (.cells #[.int .i64 0] 29 (0,0))) (b7:X.heap[B7]? = some (.cells #[v] 22 (0,0)))
  (b8:X.heap[B8]? = some (.cells #[.int .i64 (n:Int)] 2 (0,0))) (b9:X.heap[B9]? = some (.cells #[.int .i64 (i:Int)] 2 (0,0))) (hown:X.ownsRow w.heap.size 21 1 v out.length (cn out)) (hob:∀ j,v.ownBlock=some j->j<n1∨H<=j) (hB:Below w.heap.size w X)
  (hlen:out.length=b.length+pre.length) (hX1:Free (fun j=>j=B8) X X1) (b81:X1.heap[B8]? = some (.cells #[.int .i64 ((n+(i+d)/(out.length+1):Nat):Int)] 2 (0,0)))
  (hown2:X2.ownsRow w.heap.size 21 1 v2 (out.length+1) (cn (put out ((i+d)%(out.length+1)) (n+(i+d)/(out.length+1))))) (hgr:Grew X1 v X2 v2) :
  SameBooks D X ((X2.setCell ⟨B7,0,none⟩ v2).setCell ⟨B9,0,none⟩ (.int .i64 (((i+d)%(out.length+1):Nat)+1:Int))) /\
  Kept w.heap.size n1 D H X ((X2.setCell ⟨B7,0,none⟩ v2).setCell ⟨B9,0,none⟩ (.int .i64 (((i+d)%(out.length+1):Nat)+1:Int))) /\
  DecI b w n1 B2 B3 B7 B8 B9 H (pre++[(d,true)]) ((X2.setCell ⟨B7,0,none⟩ v2).setCell ⟨B9,0,none⟩ (.int .i64 (((i+d)%(out.length+1):Nat)+1:Int))):=by
 have n2:=own_ne hown b2 (by decide)
 have n3:=own_ne hown b3 (by decide)
 have n7:=own_ne hown b7 (by decide)
 have n9:=own_ne hown b9 (by decide)
 have lt:∀ {j:Nat} {o:Obj},X.heap[j]? = some o->j<X.heap.size:=fun h=>(Array.getElem?_eq_some_iff.1 h).1
 have to2:∀ {j:Nat} {o:Obj},X.heap[j]? = some o->j≠B8->v.ownBlock≠some j->X2.heap[j]? = some o:=fun {j o} h hj hn =>
  (hgr.1.block j (Nat.lt_of_lt_of_le (lt h) hX1.2.2.2.1) (fun e=>hn e.symm)).trans ((hX1.2.2.2.2 j (lt h) hj).trans h)
 have b22:=to2 b2 e28 (fun e=>n2 _ e rfl)
 have b32:=to2 b3 e38 (fun e=>n3 _ e rfl)
 have b72:=to2 b7 e78 (fun e=>n7 _ e rfl)
 have b92:=to2 b9 e98 (fun e=>n9 _ e rfl)
 have n8:=own_ne hown b8 (by decide)
 have b82:X2.heap[B8]? = some (.cells #[.int .i64 ((n+(i+d)/(out.length+1):Nat):Int)] 2 (0,0)):=(hgr.1.block B8 (Array.getElem?_eq_some_iff.1 b81).1 (fun e=>n8 _ e.symm rfl)).trans b81
 have m2:=own_ne hown2 b22 (by decide)
 have m7:=own_ne hown2 b72 (by decide)
 have m9:=own_ne hown2 b92 (by decide)
 have free:Free (fun j=>v.ownBlock=some j∨j=B8∨j=B7∨j=B9) X ((X2.setCell ⟨B7,0,none⟩ v2).setCell ⟨B9,0,none⟩ (.int .i64 (((i+d)%(out.length+1):Nat)+1:Int))):=by
  have f1:Free (fun j=>v.ownBlock=some j∨j=B8∨j=B7∨j=B9) X X2:=((Free.refl _ X).trans hX1 (fun j _ e => .inr (.inl e))).trans (Free.of_grown hgr.1) (fun j _ e => .inl e)
  exact (f1.trans (Free.store _ _ _) (fun j _ e => .inr (.inr (.inl e)))).trans (Free.store _ _ _) (fun j _ e => .inr (.inr (.inr e)))
 have hrl:(i+d)%(out.length+1)<=out.length:=by have:=Nat.mod_lt (i+d) (show 0<out.length+1 by omega);omega
 have hsc2:n+(i+d)/(out.length+1)<=1114111:=by have:=hsc;unfold sca at this;simp at this;exact this.1
 have hsnoc:=insL_snoc hins hsc
 generalize hX':((X2.setCell ⟨B7,0,none⟩ v2).setCell ⟨B9,0,none⟩ (.int .i64 (((i+d)%(out.length+1):Nat)+1:Int)))=X' at free ⊢
 have notS:∀ j,n1<=j->j<H->¬ (v.ownBlock=some j∨j=B8∨j=B7∨j=B9):=fun j hj hj2 h=>by
  rcases h with h|h|h|h
  ·have:=hob j h;omega
  ·omega
  ·omega
  ·omega
 have notL:∀ j,j<w.heap.size->¬ (v.ownBlock=some j∨j=B8∨j=B7∨j=B9):=fun j hj h=>by
  rcases h with h|h|h|h
  ·have:=(hown.lt j h).1;omega
  ·omega
  ·omega
  ·omega
 refine⟨⟨free.2.2.2.2 D (by omega) (notS D hn1 (by omega)),free.2.2.2.2 (D+1) (by omega) (notS (D+1) (by omega) (by omega))⟩,⟨free.2.2.2.1,fun j hj => ?_⟩,_,_,_,v2,hsnoc, ?_, ?_, ?_, ?_, ?_, ?_, ?_, ?_, ?_, ?_, ?_⟩
 ·rcases hj with hj|⟨hj1,hj2,_,_⟩
  ·exact free.2.2.2.2 j (by have:=hB.size;omega) (notL j hj)
  ·exact free.2.2.2.2 j (by omega) (notS j hj1 hj2)
 ·rw[<-hX',heap_set_ne e29,heap_set_ne e27];exact b22
 ·rw[<-hX',heap_set_ne e39,heap_set_ne e37];exact b32
 ·rw[<-hX',heap_set_ne (Ne.symm e97)];exact heap_set1 b72
 ·rw[<-hX',heap_set_ne (Ne.symm e98),heap_set_ne (Ne.symm e78)];exact b82
 ·rw[<-hX']
  have h1:=heap_set1 (v:=.int .i64 (((i+d)%(out.length+1):Nat)+1:Int)) ((heap_set_ne (W:=X2) (o:=0) (v:=v2) e97).trans b92)
  rw[h1];simp
 ·have h3:X'.ownsRow w.heap.size 21 1 v2 (out.length+1) (cn (put out ((i+d)%(out.length+1)) (n+(i+d)/(out.length+1)))):=own_of_heap hown2 (fun j hj=>by
   rw[<-hX',heap_set_ne (m9 j hj),heap_set_ne (m7 j hj)])
  rw[put_len _ hrl];exact h3
 ·intro j hj
  rcases hgr.2 with e|⟨k,e,hk⟩
  ·rw[e]at hj;exact hob j hj
  ·rw[e]at hj;injection hj with hj;subst hj;exact .inr (by have:=hX1.2.2.2.1;omega)
 ·exact hB.trans (free.below hB.size notL)
 ·rw[put_len _ hrl];omega
 ·exact hsc2
 ·rw[put_len _ hrl,hlen];simp;omega
theorem dec_refuse{b:List Nat}{pre:List (Nat × Bool)}{x:Nat × Bool}{w X X1:World}{n1 B2 B3 B8 D H:Nat}(h2:B2<n1)(h3:B3<n1)(h8:B8<n1)(g2:w.heap.size<=B2)(g3:w.heap.size<=B3)(g8:w.heap.size<=B8)(e28:B2≠B8)(e38:B3≠B8)(e23:B2≠B3)
  (hn1:n1<=D) (hD:D+2<=H) (hHX:H<=X.heap.size) (hins:insL b 128 0 (pre++[x])=none)
  (b2:X.heap[B2]? = some (.cells #[.slice none 0 0] 22 (0,0))) (b3:X.heap[B3]? = some (.cells #[.int .i64 0] 29 (0,0))) (hB:Below w.heap.size w X) (hX1:Free (fun j=>j=B8) X X1) :
  SameBooks D X ((X1.setCell ⟨B2,0,none⟩ (.slice none 0 0)).setCell ⟨B3,0,none⟩ (.int .i64 40))/\DecX b w B2 B3 (pre++[x]) ((X1.setCell ⟨B2,0,none⟩ (.slice none 0 0)).setCell ⟨B3,0,none⟩ (.int .i64 40)):=by
 have lt:∀ {j:Nat} {o:Obj},X.heap[j]? = some o->j<X.heap.size:=fun h=>(Array.getElem?_eq_some_iff.1 h).1
 have b21:=(hX1.2.2.2.2 B2 (lt b2) e28).trans b2
 have b31:=(hX1.2.2.2.2 B3 (lt b3) e38).trans b3
 have free:Free (fun j=>j=B8∨j=B2∨j=B3) X ((X1.setCell ⟨B2,0,none⟩ (.slice none 0 0)).setCell ⟨B3,0,none⟩ (.int .i64 40)) :=
  (((Free.refl _ X).trans hX1 (fun j _ e => .inl e)).trans (Free.store _ _ _) (fun j _ e => .inr (.inl e))).trans (Free.store _ _ _) (fun j _ e => .inr (.inr e))
 refine⟨⟨free.2.2.2.2 D (by omega) (by omega),free.2.2.2.2 (D+1) (by omega) (by omega)⟩,hins, ?_, ?_,hB.trans (free.below hB.size (fun j hj h=>by omega))⟩
 ·rw[heap_set_ne e23];exact heap_set1 b21
 ·exact heap_set1 ((heap_set_ne (W:=X1) (o:=0) (v:=.slice none 0 0) (Ne.symm e23)).trans b31)
theorem decI_ab{b:List Nat}{w:World}{n1 B2 B3 B7 B8 B9 H:Nat}(h2:B2<n1)(h3:B3<n1)(h7:B7<n1)(h8:B8<n1)(h9:B9<n1)(hw:w.heap.size<=n1):AbAll n1 H (fun pre W=>DecI b w n1 B2 B3 B7 B8 B9 H pre W):=by
 rintro pre W W' row ⟨out,n,i,v,hins,b2,b3,b7,b8,b9,hown,hob,hB,hi,hn,hl⟩ hg hr
 have far:∀ {j:Nat} {o:Obj},(j<n1∨H<=j)->W.heap[j]? = some o->W'.heap[j]? = some o:=fun {j o} hj2 h=>(hg.block j (Array.getElem?_eq_some_iff.1 h).1 (fun e=>by have:=hr j e.symm;omega)).trans h
 exact⟨out,n,i,v,hins,far (.inl h2) b2,far (.inl h3) b3,far (.inl h7) b7,far (.inl h8) b8,far (.inl h9) b9,
  own_of_heap hown (fun j hj=>hg.block j (hown.lt j hj).2 (fun e=>by have:=hr j e.symm;have:=hob j hj;omega)),hob,hB.grown hg hB.size (fun j e=>by have:=hr j e;omega),hi,hn,hl⟩
theorem decX_ab{b:List Nat}{w:World}{n1 B2 B3 H:Nat}(h2:B2<n1)(h3:B3<n1)(hw:w.heap.size<=n1):AbAll n1 H (fun pre W=>DecX b w B2 B3 pre W):=by
 rintro pre W W' row ⟨hins,b2,b3,hB⟩ hg hr
 have far:∀ {j:Nat} {o:Obj},j<n1->W.heap[j]? = some o->W'.heap[j]? = some o:=fun {j o} hj2 h=>(hg.block j (Array.getElem?_eq_some_iff.1 h).1 (fun e=>by have:=hr j e.symm;omega)).trans h
 exact⟨hins,far h2 b2,far h3 b3,hB.grown hg hB.size (fun j e=>by have:=hr j e;omega)⟩
attribute [local go_sem] Oper.semAt_some
def decT (s:List UInt8):Option (List Nat)->Prop:=fun r => ∃ basic digits ok,PartsIs s basic digits ok/\r=if ok then decD (nat8 basic) digits else none
def Decoded (s:ByteArray) (w:World) (e:Ending) (w':World):Prop :=
 (∃ out v,decT s.data.toList (some out)/\e = .returned (.tuple #[v,.int .i64 0])/\w'.ownsRow w.heap.size 21 1 v out.length (cn out)/\Below w.heap.size w w') ∨
 (decT s.data.toList none/\e = .returned (.tuple #[.slice none 0 0,.int .i64 40])/\Below w.heap.size w w')
theorem alloc6(w:World)(a b c d e f:Obj) :
  ((((((w.alloc a).alloc b).alloc c).alloc d).alloc e).alloc f).drew.heap[w.heap.size]? = some a/\((((((w.alloc a).alloc b).alloc c).alloc d).alloc e).alloc f).drew.heap[w.heap.size+1]? = some b /\
  ((((((w.alloc a).alloc b).alloc c).alloc d).alloc e).alloc f).drew.heap[w.heap.size+1+1]? = some c/\((((((w.alloc a).alloc b).alloc c).alloc d).alloc e).alloc f).drew.heap[w.heap.size+1+1+1]? = some d /\
  ((((((w.alloc a).alloc b).alloc c).alloc d).alloc e).alloc f).drew.heap[w.heap.size+1+1+1+1]? = some e/\((((((w.alloc a).alloc b).alloc c).alloc d).alloc e).alloc f).drew.heap[w.heap.size+1+1+1+1+1]? = some f /\
  ((((((w.alloc a).alloc b).alloc c).alloc d).alloc e).alloc f).drew.heap.size=w.heap.size+6/\Below w.heap.size w ((((((w.alloc a).alloc b).alloc c).alloc d).alloc e).alloc f).drew:=by
 have up:∀ {j:Nat} {o:Obj},(((w.alloc a).alloc b).alloc c).heap[j]? = some o->((((((w.alloc a).alloc b).alloc c).alloc d).alloc e).alloc f).drew.heap[j]? = some o:=fun {j o} h=>by
  have hlt:=(Array.getElem?_eq_some_iff.1 h).1
  have hB:=(((Below.refl _ (((w.alloc a).alloc b).alloc c)).alloc (Nat.le_refl _) d).alloc (by simp) e).alloc (by simp) f
  exact (hB.block j hlt).trans h
 have h1:=alloc3_0 ((((w.alloc a).alloc b).alloc c)) d e f
 have h2:=alloc3_1 ((((w.alloc a).alloc b).alloc c)) d e f
 have h3:=alloc3_2 ((((w.alloc a).alloc b).alloc c)) d e f
 rw[World.size_alloc,World.size_alloc,World.size_alloc]at h1 h2 h3
 refine⟨up (alloc3_0 w a b c),up (alloc3_1 w a b c),up (alloc3_2 w a b c),h1,h2,h3, ?_, ?_⟩
 ·show ((((((w.alloc a).alloc b).alloc c).alloc d).alloc e).alloc f).heap.size=_
  simp
 ·have hB:=((((((Below.refl _ w).alloc (Nat.le_refl _) a).alloc (by simp) b).alloc (by simp;omega) c).alloc (by simp;omega) d).alloc (by simp;omega) e).alloc (by simp;omega) f
  exact⟨hB.os,hB.tape,hB.output,hB.size,hB.block⟩
theorem results_cell2{w:World}{B2 B3:Nat}{a b:Value}{tmps:Array Value}(h2:w.heap[B2]? = some (.cells #[a] 22 (0,0)))(h3:w.heap[B3]? = some (.cells #[b] 29 (0,0)))(t2:tmps[2]? = some (.pointer (some ⟨B2,0,none⟩)):=by rfl)(t3:tmps[3]? = some (.pointer (some ⟨B3,0,none⟩)):=by rfl) :
  (results Tryz.f275 tmps).run Tryz.prog w = .ok (.tuple #[a,b]) w:=by
 obtain⟨c2,_⟩:=box_cell h2
 obtain⟨c3,_⟩:=box_cell h3
 simp[results,Tryz.results275,go_sem,c2,c3,t2,t3]
theorem parts_ascii{l b d:List UInt8}(h:PartsIs l b d true):(∀ x∈b,x.toNat<128)/\b.length+d.length<=l.length:=by
 rcases h with ⟨_,rfl,rfl,_⟩|⟨a,t,rfl,_,⟨_,rfl,rfl,h⟩|⟨h1,rfl,rfl,_⟩⟩
 ·exact⟨by simp,by simp⟩
 ·cases h
 ·exact⟨h1,by simp⟩
theorem Decode_in(n:Nat)(hn:4<=n)(s:ByteArray)(w:World)(hs:s.size<=10000) :
    CallsIn Fence.wide n Tryz.prog 275 #[.string s] w (Decoded s w):=by
  have h1:1<=n:=by omega
  have hmx:Tryz.prog.follows .mixedOrders=true:=by kernel_rfl
  refine callsIn_of_wp_marks Tryz.func275 rfl trivial ?_ rfl
  simp only[Tryz.ntmps275,List.size_toArray,List.length_cons,List.length_nil,Nat.reduceAdd,Nat.reduceSub,Array.replicate_succ,Array.replicate_zero,List.push_toArray,List.append_toArray,List.nil_append,List.cons_append]
  gi_wp2_with fail
  refine⟨trivial,(callsIn_wide.2 (parts_any s _ (by omega))).mono ?_⟩
  rintro e w' ⟨bs,ds,ok,rfl,hparts,q,rfl⟩
  have hb2:(((w.alloc (.cells #[.slice none 0 0] 22)).alloc (.cells #[.int .i64 0] 29)).drewN q).heap[w.heap.size]? = some (.cells #[.slice none 0 0] 22 (0,0)):=alloc2_0 w _ _
  have hb3:(((w.alloc (.cells #[.slice none 0 0] 22)).alloc (.cells #[.int .i64 0] 29)).drewN q).heap[w.heap.size+1]? = some (.cells #[.int .i64 0] 29 (0,0)):=alloc2_1 w _ _
  have hBp:Below w.heap.size w (((w.alloc (.cells #[.slice none 0 0] 22)).alloc (.cells #[.int .i64 0] 29)).drewN q):=by
    have h:=((Below.refl w.heap.size w).alloc (Nat.le_refl _) (.cells #[.slice none 0 0] 22)).alloc (by simp) (.cells #[.int .i64 0] 29)
    exact⟨h.os,h.tape,h.output,h.size,h.block⟩
  have hsz:(((w.alloc (.cells #[.slice none 0 0] 22)).alloc (.cells #[.int .i64 0] 29)).drewN q).heap.size=w.heap.size+2:=by
    show ((w.alloc (.cells #[.slice none 0 0] 22)).alloc (.cells #[.int .i64 0] 29)).heap.size=_
    simp
  have HPARTS:=Lib.hid hparts
  generalize ((w.alloc (.cells #[.slice none 0 0] 22)).alloc (.cells #[.int .i64 0] 29)).drewN q=W at hb2 hb3 hBp hsz ⊢
  obtain⟨c2,f2⟩:=box_cell hb2
  obtain⟨c3,f3⟩:=box_cell hb3
  cases ok with
  | false =>
    clear hparts
    gi_wp2
    exact⟨_,results_cell2 (heap_set_ne (by omega) |>.trans (heap_set1 hb2)) (heap_set1 ((heap_set_ne (by omega)).trans hb3)),.inr ⟨⟨_,_,_,HPARTS.out,rfl⟩,rfl,(hBp.setCell (p:=⟨w.heap.size,0,none⟩) (Nat.le_refl _) _).setCell (p:=⟨w.heap.size+1,0,none⟩) (Nat.le_succ _) _⟩⟩
  | true =>
    obtain⟨hasc,hlen⟩:=parts_ascii hparts
    have hbs : bs.size ≤ 10000 := by have : s.data.toList.length = s.size := by simp
                                     have:bs.data.toList.length=bs.size:=by simp
                                     omega
    have hds : ds.size ≤ 10000 := by have : s.data.toList.length = s.size := by simp
                                     have:ds.data.toList.length=ds.size:=by simp
                                     omega
    obtain⟨mc,hconv,hmc1,hmc2⟩:=conv_runes bs W hasc (by omega)
    have HASC:=Lib.hid hasc
    have HLEN:=Lib.hid hlen
    clear hasc hlen hparts
    gi_wp2_with (first
      | (refine⟨trivial, ?_⟩;gi_at_call 306;refine (read_any _ _ _ _).mono ?_;rintro e w' ⟨rfl,rfl⟩)
      | fail)
    obtain⟨WL,hWL⟩:∃ WL,((((((W.alloc (.cells ((cn (nat8 bs.data.toList)).toArray++Array.replicate (mc-(nat8 bs.data.toList).length) (.int .i32 0)) 21)).alloc (.cells #[.slice (some ⟨w.heap.size+2,0,none⟩) (nat8 bs.data.toList).length mc] 22)).alloc (.cells #[.int .i64 128] 2)).alloc (.cells #[.int .i64 0] 2)).alloc (.cells #[.string ds] 9)).alloc (.cells #[.int .i64 ((nat8 bs.data.toList).length:Int)] 2)).drew=WL:=⟨_,rfl⟩
    have ha6:=alloc6 W (.cells ((cn (nat8 bs.data.toList)).toArray++Array.replicate (mc-(nat8 bs.data.toList).length) (.int .i32 0)) 21) (.cells #[.slice (some ⟨w.heap.size+2,0,none⟩) (nat8 bs.data.toList).length mc] 22) (.cells #[.int .i64 128] 2) (.cells #[.int .i64 0] 2) (.cells #[.string ds] 9) (.cells #[.int .i64 ((nat8 bs.data.toList).length:Int)] 2)
    rw[hWL]at ha6
    rw[hWL]
    clear hWL
    rw[hsz]at ha6
    obtain⟨a0,a7,a8,a9,al,ah,hWs,hBL⟩:=ha6
    have hbn:(nat8 bs.data.toList).length=bs.size:=by simp[nat8]
    have b2L:=(hBL.block w.heap.size (by omega)).trans hb2
    have b3L:=(hBL.block (w.heap.size+1) (by omega)).trans hb3
    have hstart:∀ H,w.heap.size+8<=H->DecI (nat8 bs.data.toList) w (w.heap.size+2+1+1+1+1) w.heap.size (w.heap.size+1) (w.heap.size+2+1) (w.heap.size+2+1+1) (w.heap.size+2+1+1+1) H [] WL:=fun H hH =>
      ⟨nat8 bs.data.toList,128,0,_,rfl,b2L,b3L,a7,a8,a9,⟨by simp,.inr ⟨w.heap.size+2,mc,_,rfl,by omega,a0,hmc1,hmc2,by simp;omega,by simp⟩⟩,fun j hj => .inl (by have h9:w.heap.size+2=j:=Option.some.inj hj;omega),hBp.trans (hBL.mono (by omega)),Nat.zero_le _,by omega,by simp⟩
    have HST:=Lib.hid hstart
    have HAL:=Lib.hid al
    have HAH:=Lib.hid ah
    have HBP:=Lib.hid (hBp.trans (hBL.mono (show w.heap.size<=w.heap.size+2 by omega)))
    have HDS:=Lib.hid hds
    have HBS:=Lib.hid hbs
    have HBN:=Lib.hid hbn
    clear hstart a0 a7 a8 a9 al ah hBL b2L b3L hb2 hb3 c2 c3 f2 f3 hconv hmc1 hmc2 hBp hsz hbn
    refine wpIn_iter (F:=Fence.wide) rfl h1 (gf:=338) (lb:=#[.pointer (some ⟨w.heap.size+2+1+1+1+1,0,none⟩),.pointer (some ⟨w.heap.size+2+1+1+1+1+1,0,none⟩)]) rfl trivial (enters_of Tryz.func338 (by kernel_rfl) rfl)
      (encs:=encs2) (G:=fun _ x=>x.1<=30000000000) (S:=fun xs=>xs=rdL ds.data.toList (nat8 bs.data.toList).length 72 700) (Sp:=fun pre=>pre <+: rdL ds.data.toList (nat8 bs.data.toList).length 72 700) (N:=ds.size+1) (n0:=w.heap.size) (n1:=w.heap.size+2+1+1+1+1) (by omega) (by omega) (fun _=>rfl)
      (fun W0 hB0 hs0=>read1_in (n-1) (by omega) w.heap.size (w.heap.size+2+1+1+1+1) WL.heap.size (w.heap.size+2+1+1+1+1) (nat8 bs.data.toList).length ds HDS.out (by rw[HBN.out];exact HBS.out) (Nat.le_refl _) (by omega) W0 hs0 ((hB0.block _ (by omega)).trans HAL.out) ((hB0.block _ (by omega)).trans HAH.out))
      (fun H pre X=>DecI (nat8 bs.data.toList) w (w.heap.size+2+1+1+1+1) w.heap.size (w.heap.size+1) (w.heap.size+2+1) (w.heap.size+2+1+1) (w.heap.size+2+1+1+1) H pre X) (fun pre X=>DecX (nat8 bs.data.toList) w w.heap.size (w.heap.size+1) pre X)
      (fun H=>decI_ab (by omega) (by omega) (by omega) (by omega) (by omega) (by omega)) (decX_ab (by omega) (by omega) (by omega)) (fun H hH=>HST.out H (by omega))
      (fun x a' => ∃ u0 u1 u4 u5 u6 u12 u13 u14 u15 u16 u17 u18 u19 u20 u21 u22 u23 u24 u25 u26 u27 u28 u29 u30 u31 u32 u33 u34 u35 u36 u37 u38 u39 u40 u41 u42 u43 u44 u45 u46 u47 u48 u49 u50 u51 u52 u53 u54 u55 u56 u57 u58 u59 u60 u61 u62 u63:Value,a' = { tmps:=#[u0,u1,.pointer (some ⟨w.heap.size,0,none⟩),.pointer (some ⟨w.heap.size+1,0,none⟩),u4,u5,u6,.pointer (some ⟨w.heap.size+2+1,0,none⟩),.pointer (some ⟨w.heap.size+2+1+1,0,none⟩),.pointer (some ⟨w.heap.size+2+1+1+1,0,none⟩),.int .i64 (x.1:Int),.bool x.2,u12,u13,u14,u15,u16,u17,u18,u19,u20,u21,u22,u23,u24,u25,u26,u27,u28,u29,u30,u31,u32,u33,u34,u35,u36,u37,u38,u39,u40,u41,u42,u43,u44,u45,u46,u47,u48,u49,u50,u51,u52,u53,u54,u55,u56,u57,u58,u59,u60,u61,u62,u63],defers:=[] })
      ?assign ?body ?done ?stop
    case assign =>
      intro lp x X K hK
      simp only[encs2]
      gi_wp2
      all_goals exact hK _ ⟨_,_,_,_,_,_,_,_,_,_,_,_,_,_,_,_,_,_,_,_,_,_,_,_,_,_,_,_,_,_,_,_,_,_,_,_,_,_,_,_,_,_,_,_,_,_,_,_,_,_,_,_,_,_,_,_,_,rfl⟩
    case body =>
      rintro H lp pre ⟨d,said⟩ a' X hH hHX ⟨out,n',i,v,hins,b2,b3,b7,b8,b9,hown,hob,hBX,hil,hnl,hol⟩ ⟨u0,u1,u4,u5,u6,u12,u13,u14,u15,u16,u17,u18,u19,u20,u21,u22,u23,u24,u25,u26,u27,u28,u29,u30,u31,u32,u33,u34,u35,u36,u37,u38,u39,u40,u41,u42,u43,u44,u45,u46,u47,u48,u49,u50,u51,u52,u53,u54,u55,u56,u57,u58,u59,u60,u61,u62,u63,rfl⟩ hlen hgood
      have hn11:1<=n-1-1:=by omega
      have hgood':d<=30000000000:=hgood
      have hbl1:(nat8 bs.data.toList).length<=10000:=by rw[HBN.out];exact HBS.out
      have hds1:=HDS.out
      have hout:out.length<=20001:=by omega
      have hround:=fun (X1 X2:World) (v2:Value) hsc h1 h2 h3 h4=>dec_round (X1:=X1) (X2:=X2) (v2:=v2) (d:=d) (n1:=w.heap.size+2+1+1+1+1) (B2:=w.heap.size) (B3:=w.heap.size+1) (B7:=w.heap.size+2+1) (B8:=w.heap.size+2+1+1) (B9:=w.heap.size+2+1+1+1) (D:=WL.heap.size) (H:=H) (by omega) (by omega) (by omega) (by omega) (by omega) (by omega) (by omega) (by omega) (by omega) (by omega) (by omega) (by omega) (by omega) (by omega) (by omega) (by omega) (by omega) (by omega) (by omega) (by omega) (by omega) hHX hins hsc b2 b3 b7 b8 b9 hown hob hBX hol h1 h2 h3 h4
      have hrefuse:=fun (X1:World) hx h1=>dec_refuse (b:=nat8 bs.data.toList) (pre:=pre) (x:=(d,said)) (X1:=X1) (n1:=w.heap.size+2+1+1+1+1) (B2:=w.heap.size) (B3:=w.heap.size+1) (B8:=w.heap.size+2+1+1) (D:=WL.heap.size) (H:=H) (by omega) (by omega) (by omega) (by omega) (by omega) (by omega) (by omega) (by omega) (by omega) (by omega) (by omega) hHX hx b2 b3 hBX h1
      have hfail:=insL_fail (d:=d) (ok:=said) hins
      have hrl:(i+d)%(out.length+1)<=out.length:=by have:=Nat.mod_lt (i+d) (show 0<out.length+1 by omega);omega
      have hql:=Nat.div_le_self (i+d) (out.length+1)
      have hqi:((i:Int)+(d:Int))/((out.length:Int)+1)=(((i+d)/(out.length+1):Nat):Int):=by
        rw[show (i:Int)+(d:Int)=((i+d:Nat):Int) by omega,show (out.length:Int)+1=((out.length+1:Nat):Int) by omega];simp
      have hri:((i:Int)+(d:Int))%((out.length:Int)+1)=(((i+d)%(out.length+1):Nat):Int):=by
        rw[show (i:Int)+(d:Int)=((i+d:Nat):Int) by omega,show (out.length:Int)+1=((out.length+1:Nat):Int) by omega];simp
      obtain⟨q,hq⟩:∃ q,(i+d)/(out.length+1)=q:=⟨_,rfl⟩
      obtain⟨r,hr⟩:∃ r,(i+d)%(out.length+1)=r:=⟨_,rfl⟩
      simp only[hq,hr]at hround hfail
      rw[hr]at hrl hri
      rw[hq]at hql hqi
      have hscq:=sca_iff (n'+q)
      have hnq:((n'+q:Nat):Int)=(n':Int)+(q:Int):=by omega
      rw[hnq]at hscq
      obtain⟨A,c,rfl⟩:=own_slice hown
      have n8:=own_ne hown b8 (by decide)
      obtain⟨c2,f2⟩:=box_cell b2
      obtain⟨c3,f3⟩:=box_cell b3
      obtain⟨c7,f7⟩:=box_cell b7
      obtain⟨c8,f8⟩:=box_cell b8
      obtain⟨c9,f9⟩:=box_cell b9
      have hz0:(((out.length:Int)+1)==0)=false:=by simp;omega
      have HROUND:=Lib.hid hround
      have HREF:=Lib.hid hrefuse
      have HFAIL:=Lib.hid hfail
      have HOWN:=Lib.hid hown
      have HB7:=Lib.hid b7
      have HB8:=Lib.hid b8
      have HB9:=Lib.hid b9
      have HN8:=Lib.hid n8
      have HSCQ:=Lib.hid hscq
      have HBX:=Lib.hid hBX
      have hw1:IntKind.i64.wrap ((i:Int)+(d:Int))=(i:Int)+(d:Int):=IntWalk.i64_in _ (by omega)
      have hw2:IntKind.i64.wrap (((i:Int)+(d:Int)).tdiv ((out.length:Int)+1))=(q:Int):=by rw[IntWalk.i64_quo _ _ (by omega),hqi]
      have hw3:IntKind.i64.wrap ((n':Int)+(q:Int))=(n':Int)+(q:Int):=IntWalk.i64_in _ (by omega)
      clear hround hrefuse hfail hob hscq hq hr hins b2 b3 b7 b8 b9 hown hol hgood hBX n8
      gi_wp2
      refine wpIn_mono (Q:=fun e a2 w2=>e=Exit.normal/\a2 = { tmps:=#[u0,u1,.pointer (some ⟨w.heap.size,0,none⟩),.pointer (some ⟨w.heap.size+1,0,none⟩),u4,u5,u6,.pointer (some ⟨w.heap.size+2+1,0,none⟩),.pointer (some ⟨w.heap.size+2+1+1,0,none⟩),.pointer (some ⟨w.heap.size+2+1+1+1,0,none⟩),.int .i64 (d:Int),.bool said,.int .i64 ((out.length:Int)+1),u13,u14,u15,u16,u17,u18,u19,u20,u21,u22,u23,u24,u25,u26,u27,u28,u29,u30,u31,u32,.slice A out.length c,.int .i64 (out.length:Int),.int .i64 ((out.length:Int)+1),.int .i64 (n':Int),.int .i64 (i:Int),.int .i64 (d:Int),.int .i64 ((i:Int)+(d:Int)),.int .i64 ((out.length:Int)+1),.int .i64 (q:Int),.int .i64 ((n':Int)+(q:Int)),u43,u44,u45,u46,u47,u48,u49,u50,u51,u52,u53,u54,u55,u56,u57,u58,u59,u60,u61,u62,u63],defers:=[] }/\w2=(X.setCell ⟨w.heap.size+2+1+1,0,none⟩ (.int .i64 ((n':Int)+(q:Int)))).drew) ?_ ?_
      · gi_region_with_o (fail)
        all_goals exact⟨rfl,rfl,rfl⟩
      rintro _ _ _ ⟨rfl,rfl,rfl⟩
      have hX1:Free (fun j=>j=w.heap.size+2+1+1) X ((X.setCell ⟨w.heap.size+2+1+1,0,none⟩ (.int .i64 ((n':Int)+(q:Int)))).drew):=Free.store X (w.heap.size+2+1+1) (.int .i64 ((n':Int)+(q:Int)))
      have hb81:((X.setCell ⟨w.heap.size+2+1+1,0,none⟩ (.int .i64 ((n':Int)+(q:Int)))).drew).heap[w.heap.size+2+1+1]? = some (.cells #[.int .i64 ((n':Int)+(q:Int))] 2 (0,0)):=heap_set1 (W:=X) HB8.out
      have hown1:((X.setCell ⟨w.heap.size+2+1+1,0,none⟩ (.int .i64 ((n':Int)+(q:Int)))).drew).ownsRow w.heap.size 21 1 (.slice A out.length c) out.length (cn out):=own_of_heap HOWN.out (fun j hj=>heap_set_ne (W:=X) (HN8.out j hj))
      have hc21:((X.setCell ⟨w.heap.size+2+1+1,0,none⟩ (.int .i64 ((n':Int)+(q:Int)))).drew).cell? ⟨w.heap.size,0,none⟩=some (.slice none 0 0):=(cell_set_ne (W:=X) (B:=w.heap.size) (B':=w.heap.size+2+1+1) (o:=0) (o':=0) (v:=.int .i64 ((n':Int)+(q:Int))) (by omega)).trans c2
      have hf21:((X.setCell ⟨w.heap.size+2+1+1,0,none⟩ (.int .i64 ((n':Int)+(q:Int)))).drew).frozen? ⟨w.heap.size,0,none⟩=false:=(frozen_set_ne (W:=X) (B:=w.heap.size) (B':=w.heap.size+2+1+1) (o:=0) (o':=0) (v:=.int .i64 ((n':Int)+(q:Int))) (by omega)).trans f2
      have hc31:((X.setCell ⟨w.heap.size+2+1+1,0,none⟩ (.int .i64 ((n':Int)+(q:Int)))).drew).cell? ⟨w.heap.size+1,0,none⟩=some (.int .i64 0):=(cell_set_ne (W:=X) (B:=w.heap.size+1) (B':=w.heap.size+2+1+1) (o:=0) (o':=0) (v:=.int .i64 ((n':Int)+(q:Int))) (by omega)).trans c3
      have hf31:((X.setCell ⟨w.heap.size+2+1+1,0,none⟩ (.int .i64 ((n':Int)+(q:Int)))).drew).frozen? ⟨w.heap.size+1,0,none⟩=false:=(frozen_set_ne (W:=X) (B:=w.heap.size+1) (B':=w.heap.size+2+1+1) (o:=0) (o':=0) (v:=.int .i64 ((n':Int)+(q:Int))) (by omega)).trans f3
      have hc71:((X.setCell ⟨w.heap.size+2+1+1,0,none⟩ (.int .i64 ((n':Int)+(q:Int)))).drew).cell? ⟨w.heap.size+2+1,0,none⟩=some (.slice A out.length c):=(cell_set_ne (W:=X) (B:=w.heap.size+2+1) (B':=w.heap.size+2+1+1) (o:=0) (o':=0) (v:=.int .i64 ((n':Int)+(q:Int))) (by omega)).trans c7
      have hc91:((X.setCell ⟨w.heap.size+2+1+1,0,none⟩ (.int .i64 ((n':Int)+(q:Int)))).drew).cell? ⟨w.heap.size+2+1+1+1,0,none⟩=some (.int .i64 (i:Int)):=(cell_set_ne (W:=X) (B:=w.heap.size+2+1+1+1) (B':=w.heap.size+2+1+1) (o:=0) (o':=0) (v:=.int .i64 ((n':Int)+(q:Int))) (by omega)).trans c9
      have hc81:=(box_cell hb81).1
      have hB71:((X.setCell ⟨w.heap.size+2+1+1,0,none⟩ (.int .i64 ((n':Int)+(q:Int)))).drew).heap[w.heap.size+2+1]? = some (.cells #[.slice A out.length c] 22 (0,0)):=(heap_set_ne (W:=X) (B:=w.heap.size+2+1) (B':=w.heap.size+2+1+1) (o:=0) (v:=.int .i64 ((n':Int)+(q:Int))) (by omega)).trans HB7.out
      have hB91:((X.setCell ⟨w.heap.size+2+1+1,0,none⟩ (.int .i64 ((n':Int)+(q:Int)))).drew).heap[w.heap.size+2+1+1+1]? = some (.cells #[.int .i64 (i:Int)] 2 (0,0)):=(heap_set_ne (W:=X) (B:=w.heap.size+2+1+1+1) (B':=w.heap.size+2+1+1) (o:=0) (v:=.int .i64 ((n':Int)+(q:Int))) (by omega)).trans HB9.out
      have hs1:X.heap.size<=((X.setCell ⟨w.heap.size+2+1+1,0,none⟩ (.int .i64 ((n':Int)+(q:Int)))).drew).heap.size:=hX1.2.2.2.1
      have hBX1:Below w.heap.size w ((X.setCell ⟨w.heap.size+2+1+1,0,none⟩ (.int .i64 ((n':Int)+(q:Int)))).drew):=HBX.out.trans (hX1.below HBX.out.size (fun j hj e=>by omega))
      change X.cell? _=_ at c2
      clear c2 f2 c3 f3 c7 f7 c8 f8 c9 f9
      generalize (X.setCell ⟨w.heap.size+2+1+1,0,none⟩ (.int .i64 ((n':Int)+(q:Int)))).drew=X1 at hX1 hb81 hown1 hc21 hf21 hc31 hf31 hc71 hc91 hc81 hB71 hB91 hs1 hBX1 ⊢
      have HX1:=Lib.hid hX1
      have HB81:=Lib.hid hb81
      have HOWN1:=Lib.hid hown1
      have HB71:=Lib.hid hB71
      have HB91:=Lib.hid hB91
      have HBX1:=Lib.hid hBX1
      clear hX1 hb81 hown1 hB71 hB91 hBX1
      have hrefine:∀ (K:Prop),(insL (nat8 bs.data.toList) 128 0 (pre++[(d,said)])=none->K)->(said&&sca (n'+q))=false->K:=fun K h1 h2=>h1 (HFAIL.out h2)
      have HRR:=Lib.hid hrefine
      clear hrefine
      cases said with
      | false =>
        gi_wp2
        refine⟨trivial, ?_⟩
        gi_wp2
        exact HREF.out X1 (HFAIL.out rfl) HX1.out
      | true =>
        cases hsc:sca (n'+q) with
        | false =>
          have HSC:=Lib.hid hsc
          have hsN:=HSCQ.out.trans hsc
          have HSN:=Lib.hid hsN
          clear hsN hsc
          gi_wp2_with (first
            | (refine⟨trivial, ?_⟩;gi_at_call 307;refine (CallsIn.inRound lp (callsIn_wide.2 (scalar_no _ HSN.out))).mono ?_;rintro e X2 ⟨rfl,rfl⟩)
            | fail)
          exact HREF.out X1 (HFAIL.out (by rw[HSC.out];rfl)) HX1.out
        | true =>
          have HSC:=Lib.hid hsc
          have hsN:=HSCQ.out.trans hsc
          have HSN:=Lib.hid hsN
          have hnb:n'+q<=1114111:=by unfold sca at hsc;simp at hsc;exact hsc.1
          have hnb2:(n':Int)+(q:Int)<=1114111:=by omega
          have hnb3:0<=(n':Int)+(q:Int):=by omega
          clear hsN hsc
          have hi32:IntKind.i32.wrap ((n':Int)+(q:Int))=(n':Int)+(q:Int):=IntWalk.i32_in _ (by omega)
          have hIns:=Insert_any w.heap.size (.slice A out.length c) out r (n'+q) X1.heap.size (X1.alloc (.cells #[.int .i32 ((n':Int)+(q:Int))] 21)) (HOWN1.out.alloc _) (by omega) hrl (by simp;have:=HBX1.out.size;omega) (by rw[hnq];exact World.alloc_heap_new X1 _) (fun j hj e=>by have:=(HOWN1.out.lt j hj).2;omega)
          have HINS:=Lib.hid hIns
          clear hIns
          gi_wp2_with (first
            | (refine⟨trivial, ?_⟩;gi_at_call 307;refine (CallsIn.inRound lp (callsIn_wide.2 (scalar_yes _ HSN.out))).mono ?_;rintro e X2 ⟨rfl,rfl⟩)
            | (refine⟨trivial, ?_⟩;gi_at_call 308;refine (CallsIn.inRound lp (callsIn_wide.2 HINS.out)).mono ?_;rintro e X2 ⟨v2,rfl,hown2,hgr2⟩;have HR2:=Lib.hid (HROUND.out X1 X2 v2 HSC.out HX1.out (by rw[hnq];exact HB81.out) hown2 hgr2.from_alloc);have b72:=(hgr2.from_alloc.1.block _ (Array.getElem?_eq_some_iff.1 HB71.out).1 (fun e=>own_ne HOWN1.out HB71.out (by decide) _ e.symm rfl)).trans HB71.out;have b92:=(hgr2.from_alloc.1.block _ (Array.getElem?_eq_some_iff.1 HB91.out).1 (fun e=>own_ne HOWN1.out HB91.out (by decide) _ e.symm rfl)).trans HB91.out;obtain⟨A2,m2,rfl⟩:=own_slice hown2;obtain⟨c72,f72⟩:=box_cell b72;obtain⟨c92,f92⟩:=box_cell b92;clear hown2 hgr2 b72 b92)
            | fail)
          exact HR2.out
    case done =>
      rintro H xs X hH rfl ⟨out,n',i,v,hins,b2,b3,b7,b8,b9,hown,hob,hBX,hil,hnl,hol⟩ hD
      obtain⟨c7,f7⟩:=box_cell b7
      obtain⟨c2,f2⟩:=box_cell b2
      obtain⟨c3,f3⟩:=box_cell b3
      have m2:=own_ne hown b2 (by decide)
      have m3:=own_ne hown b3 (by decide)
      obtain⟨A,c,rfl⟩:=own_slice hown
      have hdec:decT s.data.toList (some out):=⟨_,_,_,HPARTS.out,by unfold decD;rw[hins];rfl⟩
      have HDEC:=Lib.hid hdec
      have HB2:=Lib.hid b2
      have HB3:=Lib.hid b3
      have HOWN:=Lib.hid hown
      have HM2:=Lib.hid m2
      have HM3:=Lib.hid m3
      have HBX:=Lib.hid hBX
      clear b2 b3 b7 b8 b9 hins hob hil hnl hol hown hdec m2 m3 hBX
      gi_wp2
      have e2:((X.setCell ⟨w.heap.size,0,none⟩ (.slice A out.length c)).setCell ⟨w.heap.size+1,0,none⟩ (.int .i64 0)).heap[w.heap.size]? = some (.cells #[.slice A out.length c] 22 (0,0)):=(heap_set_ne (by omega)).trans (heap_set1 HB2.out)
      have e3:((X.setCell ⟨w.heap.size,0,none⟩ (.slice A out.length c)).setCell ⟨w.heap.size+1,0,none⟩ (.int .i64 0)).heap[w.heap.size+1]? = some (.cells #[.int .i64 0] 29 (0,0)):=heap_set1 ((heap_set_ne (by omega)).trans HB3.out)
      have eD:((X.setCell ⟨w.heap.size,0,none⟩ (.slice A out.length c)).setCell ⟨w.heap.size+1,0,none⟩ (.int .i64 0)).heap[WL.heap.size]? = some (.deferred (some [])):=(heap_set_ne (by omega)).trans ((heap_set_ne (by omega)).trans hD)
      refine⟨by simp,.inl ⟨_,_,rfl,run_takeDeferred eD, ?_⟩⟩
      refine⟨_,results_cell2 ((World.putObj_heap_other (by omega)).trans e2) ((World.putObj_heap_other (by omega)).trans e3),.inl ⟨out,_,HDEC.out,rfl, ?_, ?_⟩⟩
      · exact own_of_heap HOWN.out (fun j hj=>by
          have hjD:j≠WL.heap.size:=fun e=>by
            subst e
            have:=HOWN.out.2
            rcases this with ⟨hv,_⟩|⟨g,cap,cur,hv,_,hg,_⟩
            · rw[hv]at hj;cases hj
            · rw[hv]at hj;injection hj with hj;subst hj;rw[hD]at hg;cases hg
          rw[World.putObj_heap_other hjD,heap_set_ne (HM3.out j hj),heap_set_ne (HM2.out j hj)])
      · exact ((HBX.out.setCell (p:=⟨w.heap.size,0,none⟩) (Nat.le_refl _) _).setCell (p:=⟨w.heap.size+1,0,none⟩) (Nat.le_succ _) _).trans (belowK_b (w:=w) (Nat.le_refl _) _ _ _ _ (by omega) eD rfl rfl)
    case stop =>
      rintro pre X hpre ⟨hins,b2,b3,hBX⟩ hD
      have hdec:decT s.data.toList none:=⟨_,_,_,HPARTS.out,by unfold decD;rw[insL_none_prefix hins hpre];rfl⟩
      gi_wp2
      refine⟨by simp,.inl ⟨_,_,rfl,run_takeDeferred hD, ?_⟩⟩
      exact⟨_,results_cell2 ((World.putObj_heap_other (by omega)).trans b2) ((World.putObj_heap_other (by omega)).trans b3),.inr ⟨hdec,rfl,hBX.trans (belowK_b (w:=w) (Nat.le_refl _) _ _ _ _ (by omega) hD rfl rfl)⟩⟩
theorem Decode_any(s:ByteArray)(w:World)(hs:s.size<=10000):Calls Tryz.prog 275 #[.string s] w (Decoded s w):=callsIn_wide.1 (Decode_in 5 (by omega) s w hs)
end Go.Proofs.YtkibdkfdffkkfaaGreatDoor.Pn
